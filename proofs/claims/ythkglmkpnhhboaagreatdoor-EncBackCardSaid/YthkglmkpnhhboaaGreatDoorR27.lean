/-
  sect.take and sect.mayStand: the section with which bytes begin, and whether it may stand. (gen/sectake.py)
-/
import Derived.Test.YthkglmkpnhhboaaGreatDoorR01
import Derived.Test.YthkglmkpnhhboaaGreatDoorR13
import Derived.Test.YthkglmkpnhhboaaGreatDoorR26
import Derived.Test.YthkglmkpnhhboaaGreatDoorR16
import Derived.Test.YthkglmkpnhhboaaGreatDoorR07
import Derived.Deep.CutRange
import Derived.Lib.SlBytesConst
set_option maxRecDepth 100000
set_option maxHeartbeats 4000000
namespace Go.Proofs.YthkglmkpnhhboaaGreatDoor
open Go.RowKit Sec Leb
def jj (A : Option Addr) (l : List UInt8) (c : Nat) (w : World) (e : Ending) (w' : World) : Prop :=
 Below w.heap.size w w' ∧ match hd l with
  | none => e = .returned (.tuple #[.agg #[.int .u8 0, .slice none 0 0], .int .i64 0, .bool false])
  | some (id, own, _) => ∃ A' c', e = .returned (.tuple #[.agg #[.int .u8 (id : Int), .slice A' own.length c'], .int .i64 (hlen l : Int), .bool true]) ∧ own.length ≤ c' ∧ c' ≤ c ∧ (A' = none → c' = 0) ∧ ∀ W B, Has W B A l → Has W B A' own
theorem eO {A : Option Addr} {l : List UInt8} {c : Nat} {w w' : World} (h : hd l = none) (hb : Below w.heap.size w w') : jj A l c w (.returned (.tuple #[.agg #[.int .u8 0, .slice none 0 0], .int .i64 0, .bool false])) w' := ⟨hb, by rw [h]⟩
theorem fM {A A' : Option Addr} {l own rest : List UInt8} {c c' id H U : Nat} {z : Int} {w w' : World} (h : hd l = some (id, own, rest)) (hb : Below w.heap.size w w') (hU : own.length = U) (hH : hlen l = H) (hz : z = (H : Int)) (h1 : U ≤ c') (h2 : c' ≤ c) (h3 : A' = none → c' = 0) (h4 : ∀ W B, Has W B A l → Has W B A' own) :
  jj A l c w (.returned (.tuple #[.agg #[.int .u8 (id : Int), .slice A' U c'], .int .i64 z, .bool true])) w' := by
 subst hU hH hz
 exact ⟨hb, by rw [h]; exact ⟨A', c', rfl, h1, h2, h3, h4⟩⟩
theorem fw {w w1 : World} {o : Obj} (hb : Below (w.alloc o).heap.size (w.alloc o) w1) : w1.heap[w.heap.size]? = some o := (hb.block w.heap.size (by simp)).trans (heap_alloc_new w o)
theorem dz {w : World} {g : Nat} {x0 x1 a b : Value} {t : TypeId} (h : w.heap[g]? = some (.cells #[x0, x1] t (0, 0))) : ((w.setCell ⟨g, 0, none⟩ a).setCell ⟨g, 1, none⟩ b).heap[g]? = some (.cells #[a, b] t (0, 0)) := heap_setCell_same _ g 1 _ t b (heap_setCell_same w g 0 _ t a h)
theorem eE {fn : Func} {p u v : Tmp} {ty : TypeId} (h : fn.results = #[.cell p ty, .tmp u, .tmp v]) (tmps : Array Value) (P : Program) (w : World) :
  (results fn tmps).run P w = ((asAddr (tmps.getD p undef)).run P w).andThen fun a w1 => ((loadVar ty a).run P w1).andThen fun x w2 => .ok (.tuple #[x, tmps.getD u undef, tmps.getD v undef]) w2 := by
 simp only [results, h]
 simp [Sem.run_bind, Result.andThen]
theorem desSec : (Tryz.prog.underlying 48).map (fun d => match d with | .struct _ | .array _ _ => true | _ => false) = some true := by kernel_rfl
theorem sizSec : (Tryz.prog.info? 48).map (·.size) = some 2 := by kernel_rfl
theorem bY {fn : Func} {p u v : Tmp} (h : fn.results = #[.cell p 48, .tmp u, .tmp v]) (tmps : Array Value) (w : World) (g : Nat) (c0 c1 : Value) (hp : tmps.getD p undef = .pointer (some ⟨g, 0, none⟩)) (hg : w.heap[g]? = some (.cells #[c0, c1] 48 (0, 0))) :
  (results fn tmps).run Tryz.prog w = .ok (.tuple #[.agg #[c0, c1], tmps.getD u undef, tmps.getD v undef]) w := by
 obtain ⟨d, hd1, hd2⟩ := Option.map_eq_some_iff.1 desSec
 rw [eE h, hp]
 have h2 := run_loadVar_row (P := Tryz.prog) w g 48 48 #[c0, c1] (0, 0) d hg hd1 (by cases d <;> first | rfl | cases hd2) sizSec
 simp [asAddr, h2, Result.andThen]
theorem stake_any (A : Option Addr) (l : List UInt8) (n c : Nat) (w : World) (hA : Has w w.heap.size A l) (hn : n = l.length) (h0 : 0 < n) (hmax : n ≤ 140737488355328) (hc : n ≤ c) (hcm : c ≤ maxLen) :
  Calls Tryz.prog 27 #[.slice A n c] w (jj A l c w) := by
 unfold maxLen at hcm
 have HB0 : Hid (Below w.heap.size w (w.alloc (.cells #[.int .u8 0, .slice none 0 0] 48))) := Y ((Below.refl _ _).alloc (Nat.le_refl _) _)
 obtain ⟨ad, rfl⟩ := hA.someAddr (by omega)
 obtain ⟨x, r, hl⟩ : ∃ x r, l = x :: r := List.exists_cons_of_ne_nil (by intro e; subst e; simp at hn; omega)
 subst hl
 have hr : r.length = n - 1 := by rw [hn]; simp
 have HNONE : Hid (okU r 32 = false ∨ n < 1 + run r + used r → hd (x :: r) = none) := Y (fun h => by
  simp only [hd]
  rw [if_neg]
  rintro ⟨h1, h2⟩
  rcases h with h | h
  ·rw [h1] at h; cases h
  ·omega)
 by_cases hc1 : c = 1
 ·obtain rfl : n = 1 := by omega
  subst hc1
  have hr0 : r = [] := List.eq_nil_of_length_eq_zero (by omega)
  subst hr0
  have HC := Y (fun W (_ : Below w.heap.size w W) => c8 (some ad) [] 0 0 32 W rfl (by omega) (Has.nil _ _ _))
  have e1 : numU [] 32 = 0 := by decide
  have e2 : cntU [] 32 = 0 := by decide
  have e3 : okU [] 32 = false := by decide
  rw [e1, e2, e3] at HC
  have HNO := Y (HNONE.out (.inl e3))
  clear e1 e2 e3 hr hA HNONE hn
  go_enter Tryz.func27, Tryz.ntmps27
  go_wp2_with (go_at_call 47; refine (HC.out _ HB0.out).mono ?_; rintro e w1 ⟨rfl, hb⟩; have hX := fw hb; have HB := Y (HB0.out.trans (hb.mono (by simp))); clear hb; obtain ⟨z0, z1⟩ := cells2 hX; have f0 := frozen_of_row _ _ 0 _ _ hX; have f1 := frozen_of_row _ _ 1 _ _ hX; have HX := Y hX; clear hX)
  refine bodyPost_ret (bY rfl _ _ _ _ _ rfl (dz HX.out)) rfl ?_
  exact eO HNO.out ((HB.out.setCell (Nat.le_refl _) _).setCell (Nat.le_refl _) _)
 have hck : ¬ (c = 1) := hc1
 have hck2 : ¬ (c - 1 = 0) := by omega
 have HC := Y (fun W (hb : Below w.heap.size w W) => c8 (some ⟨ad.block, ad.off + 1, none⟩) r (n - 1) (c - 1) 32 W hr.symm (by omega) (by have h := (hA.on hb).from 1; exact h))
 cases hok : okU r 32 with
 | false =>
  have e1 : numU r 32 = 0 := by unfold numU; rw [hok]; rfl
  have e2 : cntU r 32 = 0 := by unfold cntU; rw [hok]; rfl
  rw [e1, e2, hok] at HC
  have HNO := Y (HNONE.out (.inl hok))
  have hn1 : (1 : Int) ≤ (n : Int) := by omega
  have hcc1 : (1 : Int) ≤ (c : Int) := by omega
  clear e1 e2 hok hr hA HNONE hn
  go_enter Tryz.func27, Tryz.ntmps27
  go_wp2_with (go_at_call 47; refine (HC.out _ HB0.out).mono ?_; rintro e w1 ⟨rfl, hb⟩; have hX := fw hb; have HB := Y (HB0.out.trans (hb.mono (by simp))); clear hb; obtain ⟨z0, z1⟩ := cells2 hX; have f0 := frozen_of_row _ _ 0 _ _ hX; have f1 := frozen_of_row _ _ 1 _ _ hX; have HX := Y hX; clear hX)
  refine bodyPost_ret (bY rfl _ _ _ _ _ rfl (dz HX.out)) rfl ?_
  exact eO HNO.out ((HB.out.setCell (Nat.le_refl _) _).setCell (Nat.le_refl _) _)
 | true =>
  have e1 : numU r 32 = (used r : Int) := by unfold numU; rw [hok]; rfl
  have e2 : cntU r 32 = (run r : Int) := by unfold cntU; rw [hok]; rfl
  rw [e1, e2, hok] at HC
  obtain ⟨hu32, hr1, hr2, _⟩ := okU_32 hok
  have HYES : Hid (1 + run r + used r ≤ n → hd (x :: r) = some (x.toNat, (r.drop (run r)).take (used r), r.drop (run r + used r))) := Y (fun h => by
   simp only [hd]
   rw [if_pos ⟨hok, by omega⟩])
  obtain ⟨R, hR⟩ : ∃ R, run r = R := ⟨_, rfl⟩
  obtain ⟨U, hU⟩ : ∃ U, used r = U := ⟨_, rfl⟩
  have HHL : Hid (hlen (x :: r) = 1 + R + U) := Y (by unfold hlen; simp [hR, hU])
  rw [hR, hU] at HC HNONE HYES
  rw [hR] at hr1 hr2
  rw [hU] at hu32
  obtain ⟨S0, hS0⟩ : ∃ S0, S0 = 1 + R := ⟨_, rfl⟩
  have hw0 : (1 : Int) + (R : Int) = (S0 : Int) := by omega
  have hw1 : IntKind.i64.wrap (1 + (R : Int)) = (S0 : Int) := by rw [IntWalk.i64_in _ (by omega)]; exact hw0
  have hsub : IntKind.u64.wrap ((n : Int) - (S0 : Int)) = (n : Int) - (S0 : Int) := IntWalk.u64_in _ (by omega)
  have HS0 := Y hS0
  have hn1 : (1 : Int) ≤ (n : Int) := by omega
  have hcc1 : (1 : Int) ≤ (c : Int) := by omega
  have hr2' : S0 ≤ n := by omega
  have hr2i : (S0 : Int) ≤ (n : Int) := by omega
  by_cases hlong : n < 1 + R + U
  ·have HNO := Y (HNONE.out (.inr hlong))
   have hl : (n : Int) - (S0 : Int) < (U : Int) := by omega
   clear e1 e2 hok hr hA HNONE hn HYES hR hU HHL hr2 hS0
   go_enter Tryz.func27, Tryz.ntmps27
   go_wp2_with (go_at_call 47; refine (HC.out _ HB0.out).mono ?_; rintro e w1 ⟨rfl, hb⟩; have hX := fw hb; have HB := Y (HB0.out.trans (hb.mono (by simp))); clear hb; obtain ⟨z0, z1⟩ := cells2 hX; have f0 := frozen_of_row _ _ 0 _ _ hX; have f1 := frozen_of_row _ _ 1 _ _ hX; have HX := Y hX; clear hX)
   refine bodyPost_ret (bY rfl _ _ _ _ _ rfl (dz HX.out)) rfl ?_
   exact eO HNO.out ((HB.out.setCell (Nat.le_refl _) _).setCell (Nat.le_refl _) _)
  ·have hl : decide ((n : Int) - (S0 : Int) < (U : Int)) = false := decide_eq_false (by omega)
   have hle : 1 + R + U ≤ n := by omega
   have HY := Y (HYES.out hle)
   have hUw : IntKind.i64.wrap (U : Int) = (U : Int) := IntWalk.i64_in _ (by omega)
   have hcell : w.cell? ad = some (.int .u8 (x.toNat : Int)) := by
    obtain ⟨ad2, e1, _, e3⟩ := hA 0 x rfl
    injection e1 with e1
    subst e1
    exact e3
   have hadb : ad.block < w.heap.size := by
    obtain ⟨ad2, e1, e2, _⟩ := hA 0 x rfl
    injection e1 with e1
    subst e1
    exact e2
   have HCELL : Hid (∀ W, Below w.heap.size w W → W.cell? ad = some (.int .u8 (x.toNat : Int))) := Y (fun W hb => (hb.cell hadb).trans hcell)
   have HOL : Hid (((r.drop R).take U).length = U) := Y (by simp; omega)
   have HN := Y hn
   have HRL := Y hr
   obtain ⟨E0, hE0⟩ : ∃ E0, E0 = S0 + U := ⟨_, rfl⟩
   have hw2 : (S0 : Int) + (U : Int) = (E0 : Int) := by omega
   have hle1 : S0 ≤ E0 ∧ E0 ≤ n ∧ E0 ≤ c ∧ E0 - S0 = U := by omega
   have hle2 : (E0 : Int) ≤ (c : Int) := by omega
   have hle3 : (S0 : Int) ≤ (E0 : Int) := by omega
   have hle4 : ((S0 : Int)) ≤ (c : Int) := by omega
   obtain ⟨hle5, hle6, hle7, hle8⟩ := hle1
   have HE0 := Y hE0
   clear hE0
   generalize x.toNat = id at HY HCELL
   clear e1 e2 hok hr hA HNONE hn HYES hR hU hr2 hcell hadb hS0
   go_enter Tryz.func27, Tryz.ntmps27
   go_upto_region 6 with (go_at_call 47; refine (HC.out _ HB0.out).mono ?_; rintro e w1 ⟨rfl, hb⟩; have hX := fw hb; have HB := Y (HB0.out.trans (hb.mono (by simp))); clear hb; obtain ⟨z0, z1⟩ := cells2 hX; have f0 := frozen_of_row _ _ 0 _ _ hX; have f1 := frozen_of_row _ _ 1 _ _ hX; have HX := Y hX; clear hX)
   have hcd : w1.drew.cell? ad = some (.int .u8 (id : Int)) := HCELL.out _ (HB.out.drew)
   by_cases hq : c = S0
   ·have hU0 : U = 0 := by have := HE0.out; omega
    have hqi : (c : Int) = (S0 : Int) := by omega
    obtain rfl : E0 = S0 := by have := HE0.out; omega
    subst hq
    obtain rfl : n = c := by omega
    have HU0 := Y hU0
    clear hU0
    refine wp_region_held_drew (S := (fun w' => w'.cell? ad = some (.int .u8 (id : Int)))) (by kernel_rfl) (hcd) (fun hHeld => ?_)
    refine dv 0 rfl ?_
    refine dv 1 rfl ?_
    refine dv 2 rfl ?_
    refine dv 3 rfl ?_
    refine dv 4 rfl ?_
    refine dv 5 rfl ?_
    refine dv 6 rfl ?_
    refine dv 7 rfl ?_
    refine dv 8 rfl ?_
    refine an 9 rfl (by kernel_rfl) (fun K hK => ?_)
    go_simp
    skip
    refine hK.out _ _ (HCELL.out _ ((HB.out.drew.setCell (Nat.le_refl _) _).setCell (Nat.le_refl _) _)) (fun hHeld2 => ?_)
    clear hK K
    clear hHeld
    have hHeld := hHeld2
    clear hHeld2
    refine dv 10 rfl ?_
    refine dv 11 rfl ?_
    refine wpAnyH_done (by kernel_rfl) ?_ _
    go_wp2_with fail
    refine bodyPost_ret (bY rfl _ _ _ _ _ rfl (dz (w := w1.drew) HX.out)) rfl ?_
    exact fM HY.out ((HB.out.drew.setCell (Nat.le_refl _) _).setCell (Nat.le_refl _) _) HOL.out HHL.out (by have := HS0.out; have := HE0.out; omega) (by omega) (by omega) (by simp) (fun W B h => by
     have h0 : (r.drop R).take U = [] := (congrArg (fun k => (r.drop R).take k) HU0.out).trans rfl
     rw [h0]
     exact Has.nil _ _ _)
   ·have hck3 : ¬ (c - S0 = 0) := by omega
    refine wp_region_held_drew (S := (fun w' => w'.cell? ad = some (.int .u8 (id : Int)))) (by kernel_rfl) (hcd) (fun hHeld => ?_)
    refine dv 0 rfl ?_
    refine dv 1 rfl ?_
    refine dv 2 rfl ?_
    refine dv 3 rfl ?_
    refine dv 4 rfl ?_
    refine dv 5 rfl ?_
    refine dv 6 rfl ?_
    refine dv 7 rfl ?_
    refine dv 8 rfl ?_
    refine an 9 rfl (by kernel_rfl) (fun K hK => ?_)
    go_simp
    skip
    refine hK.out _ _ (HCELL.out _ ((HB.out.drew.setCell (Nat.le_refl _) _).setCell (Nat.le_refl _) _)) (fun hHeld2 => ?_)
    clear hK K
    clear hHeld
    have hHeld := hHeld2
    clear hHeld2
    refine dv 10 rfl ?_
    refine dv 11 rfl ?_
    refine wpAnyH_done (by kernel_rfl) ?_ _
    go_wp2_with fail
    refine bodyPost_ret (bY rfl _ _ _ _ _ rfl (dz (w := w1.drew) HX.out)) rfl ?_
    exact fM HY.out ((HB.out.drew.setCell (Nat.le_refl _) _).setCell (Nat.le_refl _) _) HOL.out HHL.out (by have := HS0.out; have := HE0.out; omega) (by omega) (by omega) (by simp) (fun W B h => by
     have h2 := (h.from S0).take U
     rw [HS0.out, Nat.add_comm, List.drop_succ_cons] at h2
     rw [HS0.out, Nat.add_comm]
     exact h2)
def iU (id : Nat) (own : List UInt8) (k g : Nat) (w : World) (e : Ending) (w' : World) : Prop :=
 Mod (fun b => b = g) w w' ∧ if id = 0 then e = .returned (.bool (named own)) ∧ Cl w' g k else e = .returned (.bool (decide (k < id) && decide (id ≤ 11))) ∧ Cl w' g (if k < id ∧ id ≤ 11 then id else k)
theorem nm_named (l : List UInt8) : Nm.ok l = named l := rfl
theorem iY (A : Option Addr) (own : List UInt8) (id k g U c : Nat) (w : World) (hid : id < 256) (hp : Cl w g k) (hA : Has w w.heap.size A own) (hn : U = own.length) (hmax : U ≤ 140737488355328) (hc : U ≤ c) (hcm : c ≤ maxLen) (hT : Tb w) :
  Calls Tryz.prog 28 #[.agg #[.int .u8 (id : Int), .slice A U c], .func (.func 46) #[] #[.pointer (some ⟨g, 0, none⟩)]] w (iU id own k g w) := by
 unfold maxLen at hcm
 by_cases h0 : id = 0
 ·subst h0
  have HC := Y (fun W (hb : Below w.heap.size w W) => gQ A own U c W hn hmax hc (by omega) (hA.on hb) (hT.on hb))
  unfold dY at HC
  rw [nm_named] at HC
  have HP := Y hp
  have HF : Hid (∀ w', Below w.heap.size w w' → iU 0 own k g w (.returned (.bool (named own))) w') := Y (fun w' hb => ⟨Mod.more (Mod.of_below (T := fun _ => False) hb) (fun _ _ h => h.elim), by rw [if_pos rfl]; exact ⟨rfl, hp.mod (Mod.of_below (T := fun _ => False) hb) (fun h => h)⟩⟩)
  generalize named own = ok at HC HF
  generalize ByteArray.mk (Nm.str own).toArray = sn at HC
  generalize Nm.cnt own = cn at HC
  clear hp hA hT hn hid
  go_enter Tryz.func28, Tryz.ntmps28
  go_wp2_with (go_at_call 48; refine (HC.out _ ((Below.refl _ _).alloc (Nat.le_refl _) _)).mono ?_; rintro e w1 ⟨rfl, hb⟩; have HB := Y (((Below.refl _ w).alloc (Nat.le_refl _) _).trans (hb.mono (by simp))); clear hb)
  go_ret
  exact HF.out _ HB.out
 ·have h0i : ((id : Int) == 0) = false := by simp; omega
  have HP := Y hp
  have HF : Hid (∀ w', Mod (fun b => b = g) w w' → Cl w' g (if k < id ∧ id ≤ 11 then id else k) → iU id own k g w (.returned (.bool (decide (k < id) && decide (id ≤ 11)))) w') := Y (fun w' hm hc => ⟨hm, by rw [if_neg h0]; exact ⟨rfl, hc⟩⟩)
  clear hp hA hT hn h0
  go_enter Tryz.func28, Tryz.ntmps28
  go_wp2_with fail
  refine (fk id k g _ hid (HP.out.mod (Mod.of_below (T := fun _ => False) ((Below.refl _ w).alloc (Nat.le_refl _) _)) (fun h => h))).mono ?_
  rintro e w1 ⟨rfl, hm, hc1⟩
  have HM := Y (((Mod.refl (fun b => b = g) w).alloc _).trans hm (fun _ _ h => h))
  have HC1 := Y hc1
  clear hm hc1
  generalize (decide (k < id) && decide (id ≤ 11)) = ok at HF ⊢
  go_wp2_with fail
  go_ret
  exact HF.out _ HM.out HC1.out
end Go.Proofs.YthkglmkpnhhboaaGreatDoor
namespace Sec
open Leb
theorem split_bad {l : List UInt8} (h : l.take 8 ≠ begin8) : split l = none := by rw [split_eq, if_neg h]
theorem split_good {l : List UInt8} (h : l.take 8 = begin8) : split l = rdc 0 (l.drop 8) := by rw [split_eq, if_pos h]
def st (l : List UInt8) (xs : List S) (k p : Nat) : Prop := split l = (rdc k (l.drop p)).map (xs ++ ·)
theorem st_zero {l : List UInt8} (h : l.take 8 = begin8) : st l [] 0 8 := by
 unfold st; rw [split_good h]; simp
theorem st_end {l : List UInt8} {xs : List S} {k p : Nat} (h : st l xs k p) (hp : l.length ≤ p) : split l = some xs := by
 unfold st at h
 rw [h, List.drop_of_length_le hp, rdc_nil]; simp
end Sec
namespace Go.Proofs.YthkglmkpnhhboaaGreatDoor
open Go.RowKit Sec
end Go.Proofs.YthkglmkpnhhboaaGreatDoor
namespace Sec
theorem st_bad {l : List UInt8} {xs : List S} {k p : Nat} (h : st l xs k p) (hp : p < l.length) (hh : hd (l.drop p) = none) : split l = none := by
 unfold st at h
 rw [h, rdc_none (by intro e; have := congrArg List.length e; rw [List.length_drop] at this; simp at this; omega) hh]
 rfl
theorem st_next {l own rest : List UInt8} {xs : List S} {k p id H : Nat} (h : st l xs k p) (hh : hd (l.drop p) = some (id, own, rest)) (hH : hlen (l.drop p) = H) :
  (id = 0 → if named own = true then st l xs k (p + H) else split l = none) ∧ (id ≠ 0 → if k < id ∧ id ≤ 11 then st l (xs ++ [⟨id, own⟩]) id (p + H) else split l = none) := by
 have hr : rest = l.drop (p + H) := by rw [(hlen_eq hh).2.1, hH, List.drop_drop]
 have h2 := rdc_some (k := k) hh
 rw [hr] at h2
 unfold st at h ⊢
 constructor
 ·intro h0
  rw [if_pos h0] at h2
  split
  ·next hn => rw [h, h2, if_pos hn]
  ·next hn => rw [h, h2, if_neg hn]; rfl
 ·intro h0
  rw [if_neg h0] at h2
  split
  ·next hn => rw [h, h2, if_pos hn, Option.map_map]; congr 1; funext a; simp
  ·next hn => rw [h, h2, if_neg hn]; rfl
end Sec
namespace Go.Proofs.YthkglmkpnhhboaaGreatDoor
open Go.RowKit Sec
theorem ek {l : List UInt8} {w w' : World} {A : Option Addr} {c : Nat} (h : split l = none) (hb : Below w.heap.size w w') : hJ l w (.returned (.tuple #[.slice A 0 c, .int .i64 60])) w' := ⟨hb, by rw [h]; exact ⟨A, c, rfl⟩⟩
theorem sPost_yes {l : List UInt8} {xs : List S} {T : TypeId} {base : Nat} {v : Value} {w w' : World} (h : split l = some xs) (hb : Below w.heap.size w w') (ho : OwnS w' T base v xs.length xs) : hJ l w (.returned (.tuple #[v, .int .i64 0])) w' := by
 refine ⟨hb, ?_⟩
 rw [h]
 obtain ⟨A, c, rfl, h1, h2, h3⟩ := ho.tell
 exact ⟨A, c, rfl, h1, h2, h3⟩
theorem Has.mark (w : World) (l : List UInt8) (t : TypeId) (fr : Nat × Nat) : Has (w.alloc (.cells (bytesOf l).toArray t fr)) (w.alloc (.cells (bytesOf l).toArray t fr)).heap.size (some ⟨w.heap.size, 0, none⟩) l := fun k x hx => by
 refine ⟨_, rfl, by simp, ?_⟩
 have e2 : (⟨w.heap.size, 0, none⟩ : Addr).add k = ⟨w.heap.size, k, none⟩ := by
  unfold Addr.add; split <;> simp_all
 rw [e2, World.cell?_alloc_mark]
 simp [bytesOf, hx]
theorem wp_appends {P : Program} {w : World} {o : Oper} {a : Act} {K : Act → World → Prop} {Q : Exit → Act → World → Prop} (s x : Operand) (t : TypeId)
  (ho : o.op = .call { callee := .builtin .append, args := #[s, x], argTypes := #[t, t] }) (v u r : Value) (w' : World) (hs : a.eval s = v) (hx : a.eval x = u)
  (hrun : (Builtin.append_ #[t, t] o.type #[v, u]).run P w = .ok r w') (h : K (a.put o.dst r) w') : Oper.wp P o a w K Q := by
 unfold Oper.wp execOp
 simp only [ho, resolve, invoke, builtin, Sem.run_bind, Sem.run_pure, Result.andThen_ok, List.map_toArray, List.map_cons, List.map_nil, hs, hx, hrun]
 exact h
def OwnG (g : Nat) (w : World) (T : TypeId) (base : Nat) (v : Value) (n : Nat) (xs : List S) : Prop :=
 ∃ ys, ys.map (·.1) = xs ∧ w.ownsRow base T 2 v n (rowS ys) ∧ ∀ y ∈ ys, (y.1.id < 256 ∧ y.1.b.length ≤ y.2.2 ∧ y.2.2 ≤ maxLen ∧ (y.2.1 = none → y.2.2 = 0) ∧ Has w w.heap.size y.2.1 y.1.b ∧ ∀ ad, y.2.1 = some ad → y.1.b ≠ [] → v.ownBlock ≠ some ad.block) ∧ ∀ ad, y.2.1 = some ad → y.1.b ≠ [] → ad.block ≠ g
theorem OwnG.own {g : Nat} {w : World} {T : TypeId} {base : Nat} {v : Value} {n : Nat} {xs : List S} (h : OwnG g w T base v n xs) : OwnS w T base v n xs := by
 obtain ⟨ys, h1, h2, h3⟩ := h
 exact ⟨ys, h1, h2, fun y hy => (h3 y hy).1⟩
theorem OwnG.nil (g : Nat) (w : World) (T : TypeId) (base : Nat) : OwnG g w T base (.slice none 0 0) 0 [] := ⟨[], rfl, World.ownsRow_nil _ _ _ _, by simp⟩
theorem jg {T : Nat → Prop} {w w' : World} {A : Option Addr} {l : List UInt8} (h : Has w w.heap.size A l) (hm : Mod T w w') (ht : ∀ ad, A = some ad → l ≠ [] → ¬ T ad.block) : Has w' w'.heap.size A l := fun k y hk => by
 obtain ⟨ad, e1, e2, e3⟩ := h k y hk
 have hbk : (ad.add k).block = ad.block := by unfold Addr.add; split <;> rfl
 exact ⟨ad, e1, Nat.lt_of_lt_of_le e2 hm.size, hm.cell e3 (by rw [hbk]; exact ht ad e1 (fun e => by rw [e] at hk; simp at hk))⟩
theorem OwnG.mod {g : Nat} {w w' : World} {T : TypeId} {base : Nat} {v : Value} {n : Nat} {xs : List S} (h : OwnG g w T base v n xs) (hm : Mod (fun b => b = g) w w') (hg : g < base) : OwnG g w' T base v n xs := by
 obtain ⟨ys, h0, h1, h2⟩ := h
 refine ⟨ys, h0, hm.own h1 (fun k hk e => by have := aw h1 k hk; omega), fun y hy => ?_⟩
 obtain ⟨⟨q1, q2, q3, q4, q5, q6⟩, q7⟩ := h2 y hy
 exact ⟨⟨q1, q2, q3, q4, jg q5 hm q7, q6⟩, q7⟩
theorem OwnG.on {g : Nat} {w w' : World} {T : TypeId} {base : Nat} {v : Value} {n : Nat} {xs : List S} (h : OwnG g w T base v n xs) (hb : Below w.heap.size w w') : OwnG g w' T base v n xs := by
 obtain ⟨ys, h0, h1, h2⟩ := h
 refine ⟨ys, h0, (Mod.of_below (T := fun _ => False) hb).own h1 (fun _ _ h => h), fun y hy => ?_⟩
 obtain ⟨⟨q1, q2, q3, q4, q5, q6⟩, q7⟩ := h2 y hy
 exact ⟨⟨q1, q2, q3, q4, q5.on hb, q6⟩, q7⟩
theorem append1g {P : Program} (T ST : TypeId) (hu : P.underlying ST = some (.slice T)) (hinf : (P.info? T).map (fun i => (i.zero, i.size, i.bytes)) = some (some (.agg #[.int .u8 0, .slice none 0 0]), 2, 32))
  (g : Nat) (w : World) (base n : Nat) (v : Value) (xs : List S) (x : S) (A : Option Addr) (c : Nat) (hown : OwnG g w T base v n xs) (hsz : n + 1 ≤ 4000000000000) (hb : base ≤ w.heap.size)
  (hx : x.id < 256 ∧ x.b.length ≤ c ∧ c ≤ maxLen ∧ (A = none → c = 0) ∧ Has w w.heap.size A x.b) (hs : ∀ ad, A = some ad → x.b ≠ [] → v.ownBlock ≠ some ad.block ∧ ad.block ≠ g) :
  ∃ v' w', (Builtin.append_ #[ST, ST] ST #[v, .slice (some ⟨w.heap.size, 0, none⟩) 1 1]).run P (w.alloc (.cells (secCells x A c).toArray T)) = .ok v' w' ∧ OwnG g w' T base v' (n + 1) (xs ++ [x]) ∧ Mod (fun b => v.ownBlock = some b) w w' ∧ ∀ b, v'.ownBlock = some b → v.ownBlock = some b ∨ w.heap.size ≤ b := by
 obtain ⟨i0, hi, hz0, hz1, hz2⟩ := info_parts hinf
 obtain ⟨ys, h0, h1, h2⟩ := hown
 have hown1 := h1.alloc (.cells (secCells x A c).toArray T)
 obtain ⟨v', w', hrun, h3, h4, _⟩ := run_append_own (P := P) (w.alloc (.cells (secCells x A c).toArray T)) base ST ST T i0 _ 2 32 hu hi hz0 hz1 hz2 rfl (by decide) v n (rowS ys) hown1 ⟨w.heap.size, 0, none⟩ 1 1 (secCells x A c) rfl (bG w _ _) (cj x A c) (by unfold maxLen; omega) (by omega) (by simp; omega)
 have ht := bz (P := P) _ base ST ST T i0 _ 2 32 hu hi hz0 hz1 hz2 v n (rowS ys) hown1 ⟨w.heap.size, 0, none⟩ 1 1 (secCells x A c) rfl (bG w _ _) (cj x A c) (by omega) (by unfold maxLen; omega) (by omega) hrun
 have hM : Mod (fun b => v.ownBlock = some b) w w' := ((Mod.refl _ w).alloc _).trans (T' := fun b => v.ownBlock = some b) (Mod.of_grown h4 (fun _ h => h)) (fun _ _ h => h)
 have ht2 : ∀ b, v'.ownBlock = some b → v.ownBlock = some b ∨ w.heap.size ≤ b := fun b hg => by
  rcases ht b hg with h | h
  ·exact .inl h
  ·exact .inr (by simp at h; omega)
 have hnew : ∀ (A : Option Addr) (l : List UInt8), Has w w.heap.size A l → (∀ ad, A = some ad → l ≠ [] → v.ownBlock ≠ some ad.block) → ∀ ad, A = some ad → l ≠ [] → v'.ownBlock ≠ some ad.block := fun A l hh hn ad had hl e => by
  obtain ⟨a, r, hl2⟩ := List.exists_cons_of_ne_nil hl
  obtain ⟨ad2, e1, e2, _⟩ := hh 0 a (by rw [hl2]; rfl)
  rw [had] at e1
  injection e1 with e1
  subst e1
  rcases ht2 _ e with h | h
  ·exact hn ad had hl h
  ·omega
 refine ⟨v', w', hrun, ⟨ys ++ [(x, A, c)], by simp [h0], by rw [fd]; simpa [rowS] using h3, fun y hy => ?_⟩, hM, ht2⟩
 rcases List.mem_append.1 hy with hy | hy
 ·obtain ⟨⟨q1, q2, q3, q4, q5, q6⟩, q7⟩ := h2 y hy
  exact ⟨⟨q1, q2, q3, q4, jg q5 hM q6, hnew _ _ q5 q6⟩, q7⟩
 ·simp at hy; subst hy
  exact ⟨⟨hx.1, hx.2.1, hx.2.2.1, hx.2.2.2.1, jg hx.2.2.2.2 hM (fun ad h1 h2 => (hs ad h1 h2).1), hnew _ _ hx.2.2.2.2 (fun ad h1 h2 => (hs ad h1 h2).1)⟩, fun ad h1 h2 => (hs ad h1 h2).2⟩
def lenV : Value → Nat
 | .slice _ n _ => n
 | _ => 0
theorem split_ok : eg := by
 intro A l n c w hA hn hmax hc hcm hA0 hT
 have kc := fun (w : World) (C : Array Value) (n c : Nat) => Lib.run_convert_bytes_const (P := Tryz.prog) w 36 5 C n c und22 und5
 have HC := Y (fun W A2 c2 (hb : Below w.heap.size w W) (h2 : Has W W.heap.size A2 begin8) => cut_any A A2 l begin8 n c 8 c2 W (hA.on hb) h2 hn rfl hc (by omega) hA0)
 have HA := Y (fun W (hb : Below w.heap.size w W) => hA.on hb)
 have HT := Y (fun W (hb : Below w.heap.size w W) => hT.on hb)
 have HN := Y hn
 have HB1 : Hid (∀ o, Below w.heap.size w (w.alloc o)) := Y (fun o => (Below.refl _ _).alloc (Nat.le_refl _) o)
 have HM1 := Y (Has.mark w begin8 5 (8, 9))
 have HA0 := Y hA0
 clear hA hT hn hA0
 unfold CutLow at HC
 have hb8 : begin8.length = 8 := rfl
 rw [hb8] at HC
 clear hb8
 by_cases h8 : l.take 8 = begin8
 ·simp only [if_pos h8] at HC
  have HST := Y (st_zero h8)
  clear h8
  go_enter Tryz.func12, Tryz.ntmps12
  go_wp2_with (first | (go_at_call 25; refine (HC.out _ _ _ (HB1.out _) HM1.out).mono ?_; rintro e w1 ⟨rfl, A1, rfl, h8n, hA1, hh1⟩; have HH1 := Y hh1; have HA1 := Y hA1; clear hh1 hA1) | (go_at_call 26; refine (fI _).mono ?_; rintro e w2 ⟨rfl, hc2, hb2, hs2⟩; have HCL := Y hc2; have HB2 := Y ((HB1.out _).trans (hb2.mono (by simp))); have HS2 := Y hs2; clear hc2 hb2 hs2))
  have hgs : (w.alloc (.cells (bytesOf begin8).toArray 5 (8, 9))).heap.size = w.heap.size + 1 := by simp
  rw [hgs] at HCL HS2
  have HG : Hid (w.heap.size + 1 = w.heap.size + 1) := Y rfl
  clear hgs HC HM1 HB1
  obtain ⟨g, hg⟩ : ∃ g, g = w.heap.size + 1 := ⟨_, rfl⟩
  rw [← hg] at HCL HS2
  rw [← hg]
  have HGE := Y hg
  clear hg HG
  go_loopw [4, 6] (fun r u wr => ∃ (p k : Nat) (xs : List S) (A1 : Option Addr) (c1 m : Nat), Hid (m + p = n) ∧ r = .slice A1 m c1 ∧ m ≤ c1 ∧ c1 ≤ c ∧ xs.length ≤ k ∧ k ≤ 11 ∧ Hid (A1 = none → c1 = 0) ∧ Hid (∀ W B, Has W B A l → Has W B A1 (l.drop p)) ∧ Hid (Cl wr g k) ∧ Hid (OwnG g wr 48 (g + 1) u xs.length xs) ∧ Hid (Below w.heap.size w wr) ∧ Hid (g < wr.heap.size) ∧ Hid (st l xs k p)) (fun r _ _ => lenV r)
  case atStart => exact ⟨8, 0, [], A1, c - 8, n - 8, Y (by omega), rfl, by omega, by omega, by simp, by omega, HA1, HH1, HCL, Y (OwnG.nil _ _ _ _), HB2, HS2, HST⟩
  case round =>
   clear HCL HB2 HS2 HST HA1 HH1
   obtain ⟨p, k, xs, A1, c1, m, HP, rfl, hpc, hcc, hxl, hk, HA1, HH1, HCL, HO, HB, HGS, HST⟩ := hrel
   by_cases hpn : 0 < m
   ·have hpi : (0 : Int) < (m : Int) := by omega
    have hmn : m ≤ n := by have := HP.out; omega
    have HDL : Hid ((l.drop p).length = m) := Y (by rw [List.length_drop, ← HN.out]; have := HP.out; omega)
    obtain ⟨ad1, rfl⟩ := (HH1.out _ _ (HA.out w (Below.refl _ _))).someAddr (by rw [HDL.out]; exact hpn)
    have HTK := Y (fun W hb => stake_any (some ad1) (l.drop p) m c1 W (HH1.out _ _ (HA.out W hb)) HDL.out.symm hpn (by omega) hpc (by omega))
    unfold jj at HTK
    cases hh : hd (l.drop p) with
    | none =>
     have HNO := Y (st_bad HST.out (by have := HN.out; have := HP.out; omega) hh)
     rw [hh] at HTK
     simp only at HTK
     clear hh
     go_wp2_with (go_at_call 27; refine (HTK.out _ HB.out).mono ?_; rintro e w5 ⟨hb5, rfl⟩; have HB5 := Y (HB.out.trans (hb5.mono HB.out.size)); clear hb5)
     go_ret2
     exact ek HNO.out (HB5.out.alloc (by have := HB5.out.size; omega) _)
    | some t =>
     obtain ⟨id, own, rest⟩ := t
     rw [hh] at HTK
     simp only at HTK
     obtain ⟨hH1, _, hH2⟩ := hlen_eq hh
     obtain ⟨hid, hown32, _, _⟩ := iS hh
     obtain ⟨H, hH⟩ : ∃ H, hlen (l.drop p) = H := ⟨_, rfl⟩
     rw [hH] at HTK hH1 hH2
     rw [HDL.out] at hH1
     have HNX := Y (st_next HST.out hh hH)
     clear hh hH
     obtain ⟨U, hU⟩ : ∃ U, own.length = U := ⟨_, rfl⟩
     have HU := Y hU
     rw [hU] at HTK hown32
     clear hU
     have hHi : (H : Int) ≤ (m : Int) := by omega
     have hHc : (H : Int) ≤ (c1 : Int) := by omega
     have HREST : Hid (∀ A2, (A2 = some ad1 ∧ m = H ∨ A2 = some (ad1.add H)) → ∀ W B, Has W B A l → Has W B A2 (l.drop (p + H))) := Y (fun A2 hA2 W B hh => by
      have h1 := HH1.out W B hh
      rcases hA2 with ⟨rfl, hmH⟩ | rfl
      ·have : l.drop (p + H) = [] := List.eq_nil_of_length_eq_zero (by rw [List.length_drop]; have := HN.out; have := HP.out; omega)
       rw [this]; exact Has.nil _ _ _
      ·have h2 := h1.from H
       rw [List.drop_drop] at h2
       exact h2)
     have HMS := Y (fun A W c (hc1 : Cl W g k) (hb : Below w.heap.size w W) (ho : Has W W.heap.size A own) (h1 : U ≤ c) (h2 : c ≤ maxLen) => iY A own id k g U c W hid hc1 ho HU.out.symm (by omega) h1 h2 (HT.out W hb))
     unfold iU at HMS
     by_cases h0 : id = 0
     ·have HS1 := Y (HNX.out.1 h0)
      subst h0
      clear HNX
      cases hnm : named own with
      | false =>
       have HNO : Hid (split l = none) := Y (by simpa [hnm] using HS1.out)
       rw [hnm] at HMS
       simp only [if_true] at HMS
       clear hnm HS1
       go_wp2_with (first | (go_at_call 27; refine (HTK.out _ HB.out).mono ?_; rintro e w5 ⟨hb5, A5, c5, rfl, h51, h52, h53, h54⟩; have HO5 := Y h54; have H53 := Y h53; have HS5 : Hid (g < w5.heap.size ∧ wr.heap.size ≤ w5.heap.size) := Y ⟨Nat.lt_of_lt_of_le HGS.out hb5.size, hb5.size⟩; have HB6 : Hid (∀ o, Below w.heap.size w (w5.alloc o)) := Y (fun o => (HB.out.trans (hb5.mono HB.out.size)).alloc (Nat.le_trans HB.out.size hb5.size) o); have HCL6 : Hid (∀ o, Cl (w5.alloc o) g k) := Y (fun o => HCL.out.mod (T := fun _ => False) ((Mod.of_below hb5).alloc o) (fun h => h)); have HO6 : Hid (∀ o, OwnG g (w5.alloc o) 48 (g + 1) u6 xs.length xs) := Y (fun o => HO.out.on (hb5.alloc hb5.size o)); clear hb5 h54 h53) | (go_at_call 28; refine (HMS.out A5 _ c5 (HCL6.out _) (HB6.out _) (HO5.out _ _ (HH1.out _ _ (HA.out _ (HB6.out _)))) h51 (by omega)).mono ?_; rintro e w7 ⟨hm7, rfl, hc7⟩; have HCL7 := Y hc7; have HB7 := Y ((HB6.out _).trans (hm7.below (HB6.out _).size (fun k hk e => by have := HGE.out; omega))); have HO7 := Y ((HO6.out _).mod hm7 (by omega)); have HGS7 : Hid (g < w7.heap.size) := Y (Nat.lt_of_lt_of_le HS5.out.1 (Nat.le_trans (by simp) hm7.size)); have HX7 := Y (hm7.heap (heap_alloc_new w5 _) (fun e => by have := HS5.out.1; omega)); have HSZ7 : Hid (w5.heap.size < w7.heap.size) := Y (Nat.lt_of_lt_of_le (by simp) hm7.size); clear hm7 hc7; obtain ⟨z0, z1⟩ := cells2 HX7.out))
       go_ret2
       exact ek HNO.out HB7.out
      | true =>
       have HST2 : Hid (st l xs k (p + H)) := Y (by simpa [hnm] using HS1.out)
       rw [hnm] at HMS
       simp only [if_true] at HMS
       clear hnm HS1
       go_upto_region 12 with (first | (go_at_call 27; refine (HTK.out _ HB.out).mono ?_; rintro e w5 ⟨hb5, A5, c5, rfl, h51, h52, h53, h54⟩; have HO5 := Y h54; have H53 := Y h53; have HS5 : Hid (g < w5.heap.size ∧ wr.heap.size ≤ w5.heap.size) := Y ⟨Nat.lt_of_lt_of_le HGS.out hb5.size, hb5.size⟩; have HB6 : Hid (∀ o, Below w.heap.size w (w5.alloc o)) := Y (fun o => (HB.out.trans (hb5.mono HB.out.size)).alloc (Nat.le_trans HB.out.size hb5.size) o); have HCL6 : Hid (∀ o, Cl (w5.alloc o) g k) := Y (fun o => HCL.out.mod (T := fun _ => False) ((Mod.of_below hb5).alloc o) (fun h => h)); have HO6 : Hid (∀ o, OwnG g (w5.alloc o) 48 (g + 1) u6 xs.length xs) := Y (fun o => HO.out.on (hb5.alloc hb5.size o)); clear hb5 h54 h53) | (go_at_call 28; refine (HMS.out A5 _ c5 (HCL6.out _) (HB6.out _) (HO5.out _ _ (HH1.out _ _ (HA.out _ (HB6.out _)))) h51 (by omega)).mono ?_; rintro e w7 ⟨hm7, rfl, hc7⟩; have HCL7 := Y hc7; have HB7 := Y ((HB6.out _).trans (hm7.below (HB6.out _).size (fun k hk e => by have := HGE.out; omega))); have HO7 := Y ((HO6.out _).mod hm7 (by omega)); have HGS7 : Hid (g < w7.heap.size) := Y (Nat.lt_of_lt_of_le HS5.out.1 (Nat.le_trans (by simp) hm7.size)); have HX7 := Y (hm7.heap (heap_alloc_new w5 _) (fun e => by have := HS5.out.1; omega)); have HSZ7 : Hid (w5.heap.size < w7.heap.size) := Y (Nat.lt_of_lt_of_le (by simp) hm7.size); clear hm7 hc7; obtain ⟨z0, z1⟩ := cells2 HX7.out))
       by_cases hq : c1 = H
       ·subst hq
        obtain rfl : m = c1 := by omega
        go_wp2_with fail
        go_roundw
        case rel => exact ⟨p + m, k, xs, some ad1, 0, 0, Y (by have := HP.out; omega), by simp, by omega, by omega, hxl, hk, Y (fun _ => rfl), Y (HREST.out _ (.inl ⟨rfl, rfl⟩)), HCL7, HO7, HB7, HGS7, HST2⟩
        case measure => simp [lenV]; omega
       ·have hck : ¬ (c1 - H = 0) := by omega
        go_wp2_with fail
        go_roundw
        case rel => exact ⟨p + H, k, xs, some (ad1.add H), c1 - H, m - H, Y (by have := HP.out; omega), by simp, by omega, by omega, hxl, hk, Y (by simp), Y (HREST.out _ (.inr rfl)), HCL7, HO7, HB7, HGS7, HST2⟩
        case measure => simp [lenV]; omega
     ·have h0i : ((id : Int) == 0) = false := by simp; omega
      have HS2 := Y (HNX.out.2 h0)
      simp only [if_neg h0] at HMS
      clear HNX h0
      by_cases hok : k < id ∧ id ≤ 11
      ·have hob : (decide (k < id) && decide (id ≤ 11)) = true := by simp; omega
       have HST2 : Hid (st l (xs ++ [⟨id, own⟩]) id (p + H)) := Y (by have h := HS2.out; rw [if_pos hok] at h; exact h)
       rw [hob, if_pos hok] at HMS
       clear hob HS2
       go_upto_region 11 with (first | (go_at_call 27; refine (HTK.out _ HB.out).mono ?_; rintro e w5 ⟨hb5, A5, c5, rfl, h51, h52, h53, h54⟩; have HO5 := Y h54; have H53 := Y h53; have HS5 : Hid (g < w5.heap.size ∧ wr.heap.size ≤ w5.heap.size) := Y ⟨Nat.lt_of_lt_of_le HGS.out hb5.size, hb5.size⟩; have HB6 : Hid (∀ o, Below w.heap.size w (w5.alloc o)) := Y (fun o => (HB.out.trans (hb5.mono HB.out.size)).alloc (Nat.le_trans HB.out.size hb5.size) o); have HCL6 : Hid (∀ o, Cl (w5.alloc o) g k) := Y (fun o => HCL.out.mod (T := fun _ => False) ((Mod.of_below hb5).alloc o) (fun h => h)); have HO6 : Hid (∀ o, OwnG g (w5.alloc o) 48 (g + 1) u6 xs.length xs) := Y (fun o => HO.out.on (hb5.alloc hb5.size o)); clear hb5 h54 h53) | (go_at_call 28; refine (HMS.out A5 _ c5 (HCL6.out _) (HB6.out _) (HO5.out _ _ (HH1.out _ _ (HA.out _ (HB6.out _)))) h51 (by omega)).mono ?_; rintro e w7 ⟨hm7, rfl, hc7⟩; have HCL7 := Y hc7; have HB7 := Y ((HB6.out _).trans (hm7.below (HB6.out _).size (fun k hk e => by have := HGE.out; omega))); have HO7 := Y ((HO6.out _).mod hm7 (by omega)); have HGS7 : Hid (g < w7.heap.size) := Y (Nat.lt_of_lt_of_le HS5.out.1 (Nat.le_trans (by simp) hm7.size)); have HX7 := Y (hm7.heap (heap_alloc_new w5 _) (fun e => by have := HS5.out.1; omega)); have HSZ7 : Hid (w5.heap.size < w7.heap.size) := Y (Nat.lt_of_lt_of_le (by simp) hm7.size); clear hm7 hc7; obtain ⟨z0, z1⟩ := cells2 HX7.out))
       have hcd : w7.drew.cell? ⟨w5.heap.size, 0, none⟩ = some (.int .u8 (id : Int)) ∧ w7.drew.cell? ⟨w5.heap.size, 1, none⟩ = some (.slice A5 U c5) := ⟨z0, z1⟩
       clear z0 z1
       refine wp_region_held_drew (S := (fun w' => w'.cell? ⟨w5.heap.size, 0, none⟩ = some (.int .u8 (id : Int)) ∧ w'.cell? ⟨w5.heap.size, 1, none⟩ = some (.slice A5 U c5))) (by kernel_rfl) (hcd) (fun hHeld => ?_)
       refine dv 0 rfl ?_
       refine dv 1 rfl ?_
       refine dv 2 rfl ?_
       refine dv 3 rfl ?_
       refine dv 4 rfl ?_
       refine an 5 rfl (by kernel_rfl) (fun K hK => ?_)
       go_simp
       refine (iv A5 own U c5 _ (HO5.out _ _ (HH1.out _ _ (HA.out _ HB7.out.drew))) HU.out.symm (by omega) H53.out).mono ?_
       rintro e w8 ⟨v8, rfl, ho8, hb8⟩
       have hge8 := aw ho8
       obtain ⟨A8, c8, rfl, _, h81, h82, h83, h84⟩ := bR ho8
       have hu6 := fC HO7.out.own
       have hu6w := fC HO.out.own
       have hs8 := hb8.size
       have hsz7 := HSZ7.out
       have hgs5 := HS5.out
       have hO8 := (HO7.out.on (Below.drew (Below.refl _ _))).on hb8
       obtain ⟨v9, w9, hr9, ho9, hm9, ht9⟩ := append1g (P := Tryz.prog) 48 44 undS infoS g w8 (g + 1) xs.length u6 xs ⟨id, own⟩ A8 c8 hO8 (by omega) (by have h1 : w7.drew.heap.size = w7.heap.size := rfl; omega) ⟨hid, h81, h82, h83, h84⟩ (fun ad had _ => by
        have h1 := hge8 ad.block (by rw [had]; rfl)
        have h0 : w7.drew.heap.size = w7.heap.size := rfl
        refine ⟨fun e => ?_, by omega⟩
        have h2 := (hu6 _ e).2
        omega)
       have HR9 := Y hr9
       have HO9 : Hid (OwnG g w9 48 (g + 1) v9 (xs ++ [(⟨id, own⟩ : S)]).length (xs ++ [⟨id, own⟩])) := Y (by simpa using ho9)
       have hB8 := HB7.out.drew.trans (hb8.mono (show w.heap.size ≤ w7.heap.size from HB7.out.size))
       have HB9 := Y (hB8.trans (hm9.below hB8.size (fun b hk e => by have := (hu6 b e).1; have := HGE.out; omega)))
       have HCL9 : Hid (Cl w9 g id) := Y ((HCL7.out.mod (T := fun _ => False) (((Mod.refl _ w7).drew).trans (T' := fun _ => False) (Mod.of_below hb8) (fun _ _ h => h)) (fun h => h)).mod hm9 (fun e => by have := (hu6 g e).1; omega))
       have HGS9 : Hid (g < w9.heap.size) := Y (Nat.lt_of_lt_of_le HGS7.out (Nat.le_trans (show w7.heap.size ≤ w8.heap.size from hs8) hm9.size))
       have hlt : w5.heap.size < w7.drew.heap.size := hsz7
       have HS8 : Hid (w8.cell? ⟨w5.heap.size, 0, none⟩ = some (.int .u8 (id : Int)) ∧ w8.cell? ⟨w5.heap.size, 1, none⟩ = some (.slice A5 U c5)) := Y ⟨(hb8.cell hlt).trans hcd.1, (hb8.cell hlt).trans hcd.2⟩
       have HS9 : Hid (w9.cell? ⟨w5.heap.size, 0, none⟩ = some (.int .u8 (id : Int)) ∧ w9.cell? ⟨w5.heap.size, 1, none⟩ = some (.slice A5 U c5)) := Y ⟨hm9.cell HS8.out.1 (fun e => by have h : w5.heap.size < wr.heap.size := (hu6w _ e).2; omega), hm9.cell HS8.out.2 (fun e => by have h : w5.heap.size < wr.heap.size := (hu6w _ e).2; omega)⟩
       have hlen9 : (xs ++ [(⟨id, own⟩ : S)]).length = xs.length + 1 := by simp
       have HL8 : Hid (w5.heap.size < w8.heap.size) := Y (by have h0 : w7.drew.heap.size = w7.heap.size := rfl; omega)
       simp only [secCells] at HR9
       generalize own.length = q at HR9 ⊢
       generalize xs ++ [(⟨id, own⟩ : S)] = zs at HO9 HST2 hlen9
       clear hr9 ho9 hm9 ht9 hB8 hO8 hu6 hu6w hge8 ho8 hb8 h81 h82 h83 h84 hs8 hsz7 hgs5 hlt
       go_wp2_with fail
       refine hK.out _ _ (HS8.out) (fun hHeld2 => ?_)
       clear hK K
       clear hHeld
       have hHeld := hHeld2
       clear hHeld2
       refine dv 6 rfl ?_
       refine an 7 rfl (by kernel_rfl) (fun K hK => ?_)
       go_simp
       skip
       refine hK.out _ _ (⟨(World.cell?_alloc_lt _ _ _ HL8.out).trans HS8.out.1, (World.cell?_alloc_lt _ _ _ HL8.out).trans HS8.out.2⟩) (fun hHeld2 => ?_)
       clear hK K
       clear hHeld
       have hHeld := hHeld2
       clear hHeld2
       refine an 8 rfl (by kernel_rfl) (fun K hK => ?_)
       rw [if_pos (by rfl)]
       refine wp_appends (.tmp 41) (.tmp 48) 44 rfl _ _ _ w9 rfl rfl HR9.out ?_
       simp only [Act.put, Z]
       refine hK.out _ _ (HS9.out) (fun hHeld2 => ?_)
       clear hK K
       clear hHeld
       have hHeld := hHeld2
       clear hHeld2
       refine dv 9 rfl ?_
       refine wpAnyH_done (by kernel_rfl) ?_ _
       by_cases hq : c1 = H
       ·subst hq
        obtain rfl : m = c1 := by omega
        go_wp2_with fail
        go_roundw
        case rel => exact ⟨p + m, id, zs, some ad1, 0, 0, Y (by have := HP.out; omega), by simp, by omega, by omega, by omega, by omega, Y (fun _ => rfl), Y (HREST.out _ (.inl ⟨rfl, rfl⟩)), HCL9, HO9, HB9, HGS9, HST2⟩
        case measure => simp [lenV]; omega
       ·have hck : ¬ (c1 - H = 0) := by omega
        go_wp2_with fail
        go_roundw
        case rel => exact ⟨p + H, id, zs, some (ad1.add H), c1 - H, m - H, Y (by have := HP.out; omega), by simp, by omega, by omega, by omega, by omega, Y (by simp), Y (HREST.out _ (.inr rfl)), HCL9, HO9, HB9, HGS9, HST2⟩
        case measure => simp [lenV]; omega
      ·have hob : (decide (k < id) && decide (id ≤ 11)) = false := by simp; omega
       have HNO : Hid (split l = none) := Y (by have h := HS2.out; rw [if_neg hok] at h; exact h)
       rw [hob] at HMS
       clear hob hok HS2
       go_wp2_with (first | (go_at_call 27; refine (HTK.out _ HB.out).mono ?_; rintro e w5 ⟨hb5, A5, c5, rfl, h51, h52, h53, h54⟩; have HO5 := Y h54; have H53 := Y h53; have HS5 : Hid (g < w5.heap.size ∧ wr.heap.size ≤ w5.heap.size) := Y ⟨Nat.lt_of_lt_of_le HGS.out hb5.size, hb5.size⟩; have HB6 : Hid (∀ o, Below w.heap.size w (w5.alloc o)) := Y (fun o => (HB.out.trans (hb5.mono HB.out.size)).alloc (Nat.le_trans HB.out.size hb5.size) o); have HCL6 : Hid (∀ o, Cl (w5.alloc o) g k) := Y (fun o => HCL.out.mod (T := fun _ => False) ((Mod.of_below hb5).alloc o) (fun h => h)); have HO6 : Hid (∀ o, OwnG g (w5.alloc o) 48 (g + 1) u6 xs.length xs) := Y (fun o => HO.out.on (hb5.alloc hb5.size o)); clear hb5 h54 h53) | (go_at_call 28; refine (HMS.out A5 _ c5 (HCL6.out _) (HB6.out _) (HO5.out _ _ (HH1.out _ _ (HA.out _ (HB6.out _)))) h51 (by omega)).mono ?_; rintro e w7 ⟨hm7, rfl, hc7⟩; have HCL7 := Y hc7; have HB7 := Y ((HB6.out _).trans (hm7.below (HB6.out _).size (fun k hk e => by have := HGE.out; omega))); have HO7 := Y ((HO6.out _).mod hm7 (by omega)); have HGS7 : Hid (g < w7.heap.size) := Y (Nat.lt_of_lt_of_le HS5.out.1 (Nat.le_trans (by simp) hm7.size)); have HX7 := Y (hm7.heap (heap_alloc_new w5 _) (fun e => by have := HS5.out.1; omega)); have HSZ7 : Hid (w5.heap.size < w7.heap.size) := Y (Nat.lt_of_lt_of_le (by simp) hm7.size); clear hm7 hc7; obtain ⟨z0, z1⟩ := cells2 HX7.out))
       go_ret2
       exact ek HNO.out HB7.out
   ·obtain rfl : m = 0 := by omega
    have HFIN : Hid (hJ l w (.returned (.tuple #[u6, .int .i64 0])) wr) := Y (sPost_yes (st_end HST.out (by have := HN.out; have := HP.out; omega)) HB.out HO.out.own)
    go_wp2_with fail
    go_ret2
    exact HFIN.out
 ·simp only [if_neg h8] at HC
  have HNO := Y (split_bad h8)
  clear h8
  go_enter Tryz.func12, Tryz.ntmps12
  go_wp2_with (go_at_call 25; refine (HC.out _ _ _ (HB1.out _) HM1.out).mono ?_; rintro e w1 ⟨rfl, v1, rfl⟩)
  go_ret2
  exact ek HNO.out (HB1.out _)
end Go.Proofs.YthkglmkpnhhboaaGreatDoor
namespace Sec
open Leb
theorem bW (a b : List S) : encAll (a ++ b) = encAll a ++ encAll b := by simp [encAll]
theorem dg {xs : List S} {j : Nat} {x : S} (h : xs[j]? = some x) : encAll (xs.take (j + 1)) = encAll (xs.take j) ++ enc x := by
 rw [List.take_add_one, h, bW]; simp [encAll]
theorem fQ (xs : List S) (j : Nat) : (encAll (xs.take j)).length ≤ (encAll xs).length := by
 have h : encAll xs = encAll (xs.take j) ++ encAll (xs.drop j) := by rw [← bW, List.take_append_drop]
 rw [h, List.length_append]; omega
theorem fZ : ∀ (xs : List S), 2 * xs.length ≤ (encAll xs).length
 | [] => by simp [encAll]
 | x :: xs => by
  have h1 := fZ xs
  have h2 := encU_pos x.b.length
  have e : encAll (x :: xs) = enc x ++ encAll xs := by simp [encAll]
  rw [e, List.length_append, List.length_cons]
  simp only [enc, List.length_cons, List.length_append]
  omega
theorem rises_take {xs : List S} {j : Nat} {x : S} (h : xs[j]? = some x) : rises 0 (xs.take (j + 1)) = (rises 0 (xs.take j) && (decide (lastId 0 (xs.take j) < x.id) && decide (x.id ≤ 11))) := by
 rw [List.take_add_one, h, Option.toList_some, cT]
 simp [rises]
theorem gM {xs : List S} {j : Nat} (h : rises 0 (xs.take j) = false) : rises 0 xs = false := by
 have e : xs = xs.take j ++ xs.drop j := (List.take_append_drop j xs).symm
 rw [e, cT, h]; rfl
theorem dM : ∀ (a b : List S) (k : Nat), lastId k (a ++ b) = lastId (lastId k a) b
 | [], b, k => rfl
 | s :: a, b, k => by simp only [List.cons_append, lastId]; exact dM a b s.id
theorem lastId_take {xs : List S} {j : Nat} {x : S} (h : xs[j]? = some x) : lastId 0 (xs.take (j + 1)) = x.id := by
 rw [List.take_add_one, h, Option.toList_some, dM]; rfl
end Sec
namespace Go.Proofs.YthkglmkpnhhboaaGreatDoor
open Go.RowKit Sec
theorem full_adds (w : World) (base m c : Nat) (a0 a : Addr) (l1 l2 : List UInt8) (h1 : Has w w.heap.size (some a0) l1) (h2 : Has w w.heap.size (some a) l2) (hm : m = l2.length) (h0 : 0 < m) (h00 : 0 < l1.length) (hsz : l1.length + m ≤ 140737488355328) (hb : base ≤ w.heap.size) :
  ∃ v' w', (Builtin.append_ #[36, 36] 36 #[.slice (some a0) l1.length l1.length, .slice (some a) m c]).run Tryz.prog w = .ok v' w' ∧ w'.ownsRow base 5 1 v' (l1 ++ l2).length (bytesOf (l1 ++ l2)) ∧ Below w.heap.size w w' ∧ ∀ g, v'.ownBlock = some g → w.heap.size ≤ g := by
 obtain ⟨i0, hi, hz0, hz1, hz2⟩ := info_parts info5
 have cells : ∀ (ad : Addr) (l : List UInt8), Has w w.heap.size (some ad) l → 0 < l.length → ∀ j u, (bytesOf l)[j]? = some u → w.cell? (ad.add j) = some u := fun ad l h hl j u hu => by
  obtain ⟨ad', e, hc⟩ := h.cells (by rw [al]; exact hl)
  injection e with e
  subst e
  exact hc j u hu
 have hlen : (l1 ++ l2).length = l1.length + m := by rw [List.length_append, hm]
 have h63 : l1.length + m ≤ maxLen := by unfold maxLen; omega
 have hr := run_append_grow (P := Tryz.prog) w 36 36 5 i0 (.int .u8 0) und22 hi hz0 a0 l1.length l1.length (bytesOf l1) (by rw [al, hz1, Nat.mul_one]) (cells a0 l1 h1 h00) a m c (bytesOf l2) (by rw [al, hz1, Nat.mul_one, hm]) (cells a l2 h2 (by omega)) (by omega) (by omega) (growslice_fits (by omega) (by rw [hz2, Nat.mul_one]; exact hsz))
 refine ⟨_, _, hr, ?_, (Below.drew (Below.refl _ _)).alloc (Nat.le_refl _) _, fun g hg => by simp [Value.ownBlock] at hg; omega⟩
 have hge := grownCap_ge w (l1.length + m) l1.length 5
 have hcm := grownCap_le_maxLen w (l1.length + m) l1.length 5 h63
 rw [hlen]
 refine ⟨by rw [al, hlen, Nat.mul_one], .inr ⟨w.heap.size, _, _, rfl, hb, heap_alloc_new w.drew _, hge, hcm, ?_, ?_⟩⟩
 ·simp only [Array.size_append, List.size_toArray, size_zeroCells, al]
  rw [← hm, show (Value.int IntKind.u8 0).cells.size = 1 from rfl]
  omega
 ·simp only [Array.toList_append]
  rw [← aC, Nat.mul_one, ← hlen, ← al (l1 ++ l2)]
  exact List.take_left
def OutR (base g : Nat) (w : World) (v : Value) (l : List UInt8) : Prop :=
 w.ownsRow base 5 1 v l.length (bytesOf l) ∨ (v = .slice (some ⟨g, 0, none⟩) 8 8 ∧ l = begin8 ∧ Has w w.heap.size (some ⟨g, 0, none⟩) begin8 ∧ base ≤ g)
theorem OutR.on {base g : Nat} {w w' : World} {v : Value} {l : List UInt8} (h : OutR base g w v l) (hb : Below w.heap.size w w') : OutR base g w' v l := by
 rcases h with h | ⟨h1, h2, h3, h4⟩
 ·exact .inl ((Mod.of_below (T := fun _ => False) hb).own h (fun _ _ h => h))
 ·exact .inr ⟨h1, h2, h3.on hb, h4⟩
theorem OutR.blk {base g : Nat} {w : World} {v : Value} {l : List UInt8} (h : OutR base g w v l) : ∀ k, v.ownBlock = some k → base ≤ k := fun k hk => by
 rcases h with h | ⟨rfl, _, _, h4⟩
 ·exact aw h k hk
 ·have : g = k := by simpa [Value.ownBlock] using hk
  omega
theorem OutR.lt {base g : Nat} {w : World} {v : Value} {l : List UInt8} (h : OutR base g w v l) : ∀ k, v.ownBlock = some k → k < w.heap.size := fun k hk => by
 rcases h with h | ⟨rfl, _, h3, _⟩
 ·exact own_lt h k hk
 ·have e : g = k := by simpa [Value.ownBlock] using hk
  obtain ⟨ad, e1, e2, _⟩ := h3 0 0 rfl
  injection e1 with e1
  subst e1
  subst e
  exact e2
theorem iM (w : World) (base g : Nat) (v : Value) (l : List UInt8) (x : UInt8) (h : OutR base g w v l) (hsz : l.length + 1 ≤ 140737488355328) (hb : base ≤ w.heap.size) :
  ∃ v' w', (Builtin.append_ #[36, 36] 36 #[v, .slice (some ⟨w.heap.size, 0, none⟩) 1 1]).run Tryz.prog (w.alloc (.cells #[.int .u8 (x.toNat : Int)] 5)) = .ok v' w' ∧ Adds base w v w' v' (l ++ [x]) := by
 rcases h with h | ⟨rfl, rfl, h3, h4⟩
 ·exact ao w base v l x h hsz hb
 ·have hb1 : Below w.heap.size w (w.alloc (.cells #[.int .u8 (x.toNat : Int)] 5)) := (Below.refl _ _).alloc (Nat.le_refl _) _
  have hlit : Has (w.alloc (.cells #[.int .u8 (x.toNat : Int)] 5)) (w.heap.size + 1) (some ⟨w.heap.size, 0, none⟩) [x] := Has.lit w [x] 5
  obtain ⟨v', w', hr, ho, hbw, hg⟩ := full_adds (w.alloc (.cells #[.int .u8 (x.toNat : Int)] 5)) base 1 1 ⟨g, 0, none⟩ ⟨w.heap.size, 0, none⟩ begin8 [x] (h3.on hb1) (hlit.more (by simp)) rfl (by omega) (by decide) (by simpa using hsz) (Nat.le_trans hb hb1.size)
  refine ⟨v', w', hr, ho, Mod.more (Mod.of_below (T := fun _ => False) (hb1.trans (hbw.mono hb1.size))) (fun _ _ h => h.elim), fun k hk => .inr ?_⟩
  have := hg k hk
  simp at this
  omega
theorem jPost_no {xs : List S} {w w' : World} {A : Option Addr} {c : Nat} (h : rises 0 xs = false) (hb : Below w.heap.size w w') : JPost xs w (.returned (.tuple #[.slice A 0 c, .int .i64 2])) w' := ⟨hb, by rw [h]; exact ⟨A, c, rfl⟩⟩
theorem jPost_yes {xs : List S} {base g : Nat} {v : Value} {w w' : World} (h : rises 0 xs = true) (hb : Below w.heap.size w w') (ho : OutR base g w' v (join xs)) : JPost xs w (.returned (.tuple #[v, .int .i64 0])) w' := by
 refine ⟨hb, ?_⟩
 rw [if_pos h]
 rcases ho with ho | ⟨rfl, h2, h3, _⟩
 ·obtain ⟨A, c, rfl, _, h2, h3, h4, h5⟩ := bR ho
  exact ⟨A, c, rfl, h2, h3, h4, h5⟩
 ·rw [h2]
  exact ⟨_, 8, rfl, by decide, by unfold maxLen; omega, by simp, h3⟩
theorem join_ok : iC := by
 intro A xs n c w hX hn hnc hcm hsz
 have kc := fun (w : World) (C : Array Value) (n c : Nat) => Lib.run_convert_bytes_const (P := Tryz.prog) w 36 5 C n c und22 und5
 have hlen := fZ xs
 have hjl : (join xs).length = 8 + (encAll xs).length := by simp [join, begin8]; omega
 have hn2 : n ≤ 140737488355328 := by omega
 have HTL := Y (fun j => fQ xs j)
 have HSZ : Hid (8 + (encAll xs).length ≤ 140737488355328) := Y (by omega)
 have HX := Y (fun W (hb : Below w.heap.size w W) => hX.on hb)
 have HN := Y hn
 have HX0 := Y hX
 clear hX hn hlen hjl hsz
 go_enter Tryz.func16, Tryz.ntmps16
 go_wp2_with (go_at_call 26; refine (fI _).mono ?_; rintro e w1 ⟨rfl, hc1, hb1, hs1⟩; have HCL := Y hc1; have HB1 := Y hb1; have HS1 := Y hs1; clear hc1 hb1 hs1)
 have HGE : Hid (w.heap.size ≤ w.heap.size) := Y (Nat.le_refl _)
 obtain ⟨g, hg⟩ : ∃ g, g = w.heap.size := ⟨_, rfl⟩
 rw [← hg] at HCL
 rw [← hg]
 have HS1' : Hid (g < w1.heap.size) := Y (by rw [hg]; exact HS1.out)
 have HG := Y hg
 clear hg HGE HS1
 go_loopw [13] (fun i wr => ∃ j : Nat, j ≤ n ∧ i = .int .i64 (j : Int) ∧ Hid (Cl wr g (lastId 0 (xs.take j))) ∧ Hid (rises 0 (xs.take j) = true) ∧ Hid (Below w.heap.size w wr) ∧ Hid (g < wr.heap.size)) (fun i _ => n - (intOf i).toNat)
 case atStart => exact ⟨0, by omega, rfl, HCL, Y rfl, HB1, HS1'⟩
 case round =>
  clear HCL HB1 HS1'
  obtain ⟨j, hj, rfl, HCL, HR, HB, HGS⟩ := hrel
  by_cases hjn : j < n
  ·obtain ⟨x, hx⟩ : ∃ x, xs[j]? = some x := ⟨_, List.getElem?_eq_getElem (by have := HN.out; omega)⟩
   obtain ⟨ga, oo, A4, c4, rfl, hgB, hid4, hlc, hcm4, hA4, hh, k0', k1'⟩ := HX0.out j x hx
   have k0 := (HB.out.cell (p := ⟨ga, oo + j * 2, none⟩) hgB).trans k0'
   have k1 := (HB.out.cell (p := ⟨ga, oo + j * 2 + 1, none⟩) hgB).trans k1'
   have hji : (j : Int) < (n : Int) := by omega
   have HRT := Y (rises_take hx)
   have HLT := Y (lastId_take hx)
   clear hh k0' k1' hlc hcm4 hA4 hx
   obtain ⟨xi, xb⟩ := x
   simp only at k0 k1 hid4
   generalize xb.length = q at k1
   simp only at HRT HLT
   obtain ⟨k, hk⟩ : ∃ k, lastId 0 (xs.take j) = k := ⟨_, rfl⟩
   rw [hk] at HRT HCL
   rw [HR.out, Bool.true_and] at HRT
   clear hk
   have HC1 := Y (fun o => fk xi k g (wr.alloc o) hid4 (HCL.out.mod (T := fun _ => False) ((Mod.refl _ _).alloc o) (fun h => h)))
   have HB2 := Y (fun o => HB.out.alloc HB.out.size o)
   by_cases hok : k < xi ∧ xi ≤ 11
   ·have hob : (decide (k < xi) && decide (xi ≤ 11)) = true := by simp; omega
    rw [hob] at HC1 HRT
    simp only [if_pos hok] at HC1
    clear hob hok
    go_wp2_with (go_at_call 46; refine (HC1.out _).mono ?_; rintro e w3 ⟨rfl, hm3, hc3⟩; have HCL3 := Y hc3; have HB3 := Y ((HB2.out _).trans (hm3.below (HB2.out _).size (fun b hb e => by have := HG.out; omega))); have HGS3 : Hid (g < w3.heap.size) := Y (Nat.lt_of_lt_of_le HGS.out (Nat.le_trans (by simp) hm3.size)); clear hm3 hc3)
    go_roundw
    case rel => exact ⟨j + 1, by omega, by go_num, Y (by rw [HLT.out]; exact HCL3.out), HRT, HB3, HGS3⟩
    case measure => simp [intOf]; omega
   ·have hob : (decide (k < xi) && decide (xi ≤ 11)) = false := by simp; omega
    rw [hob] at HC1 HRT
    have HNO := Y (gM HRT.out)
    clear hob hok
    go_wp2_with (go_at_call 46; refine (HC1.out _).mono ?_; rintro e w3 ⟨rfl, hm3, hc3⟩; have HB3 := Y ((HB2.out _).trans (hm3.below (HB2.out _).size (fun b hb e => by have := HG.out; omega))); clear hm3 hc3)
    go_ret2
    exact jPost_no HNO.out HB3.out
  ·obtain rfl : n = j := by omega
   have hall : xs.take n = xs := by rw [HN.out, List.take_length]
   have HRA : Hid (rises 0 xs = true) := Y (by rw [← hall]; exact HR.out)
   have HM : Hid (OutR w.heap.size wr.heap.size (wr.alloc (.cells (bytesOf begin8).toArray 5 (8, 9))) (.slice (some ⟨wr.heap.size, 0, none⟩) 8 8) begin8) := Y (.inr ⟨rfl, rfl, Has.mark wr begin8 5 (8, 9), HB.out.size⟩)
   have HB2 := Y (fun o => HB.out.alloc HB.out.size o)
   clear hall HCL HR hj hjn HGS
   go_wp2_with fail
   obtain ⟨g2, hg2⟩ : ∃ g2, wr.heap.size = g2 := ⟨_, rfl⟩
   rw [hg2] at HM ⊢
   clear hg2
   have HBS : Hid (Below w.heap.size w (wr.alloc (.cells (bytesOf begin8).toArray 5 (8, 9)))) := Y (HB2.out _)
   clear HB2 HB
   go_loopw [7, 27] (fun u i wr => ∃ (j : Nat) (done : List UInt8), j ≤ n ∧ i = .int .i64 (j : Int) ∧ Hid (done = begin8 ++ encAll (xs.take j)) ∧ Hid (OutR w.heap.size g2 wr u done) ∧ Hid (Below w.heap.size w wr)) (fun _ i _ => n - (intOf i).toNat)
   case atStart => exact ⟨0, begin8, by omega, rfl, Y (by simp [encAll]), HM, HBS⟩
   case round =>
    clear HM HBS
    obtain ⟨j, done, hj, rfl, HD, HO, HB⟩ := hrel
    by_cases hjn : j < n
    ·obtain ⟨x, hx⟩ : ∃ x, xs[j]? = some x := ⟨_, List.getElem?_eq_getElem (by have := HN.out; omega)⟩
     obtain ⟨ga, oo, A4, c4, rfl, hgB, hid4, hlc, hcm4, hA4, hh, k0', k1'⟩ := HX0.out j x hx
     have k0 := (HB.out.cell (p := ⟨ga, oo + j * 2, none⟩) hgB).trans k0'
     have k1 := (HB.out.cell (p := ⟨ga, oo + j * 2 + 1, none⟩) hgB).trans k1'
     have hji : (j : Int) < (n : Int) := by omega
     have HEA := Y (dg hx)
     have hxl := HTL.out (j + 1)
     rw [HEA.out, List.length_append] at hxl
     have HHB := Y (fun W (hb : Below w.heap.size w W) => hh.on hb)
     have HSZD : Hid (done.length + (enc x).length ≤ 140737488355328) := Y (by rw [HD.out, List.length_append]; have h8 : begin8.length = 8 := rfl; have := HSZ.out; omega)
     have HENC : Hid ((enc x).length = 1 + (Leb.encU x.b.length).length + x.b.length ∧ done ++ [UInt8.ofNat x.id] ++ Leb.encU x.b.length ++ x.b = done ++ enc x) := Y ⟨by simp [enc]; omega, by simp [enc]⟩
     clear hh k0' k1' hx hxl
     obtain ⟨xi, xb⟩ := x
     simp only at k0 k1 hid4 HHB HENC hlc
     obtain ⟨q, hq⟩ : ∃ q, xb.length = q := ⟨_, rfl⟩
     have HQ := Y hq
     rw [hq] at k1 hlc HENC
     clear hq
     have hq47 : q ≤ 140737488355328 := by have := HSZD.out; have := HENC.out.1; omega
     have hqw : IntKind.u64.wrap (q : Int) = (q : Int) := IntWalk.u64_in _ (by omega)
     have hws := HB.out.size
     have hb3 : Below wr.heap.size wr (wr.alloc (.cells #[.int .u8 (xi : Int), .slice A4 q c4] 48)) := (Below.refl _ _).alloc (Nat.le_refl _) _
     have HX3 : Hid ((wr.alloc (.cells #[.int .u8 (xi : Int), .slice A4 q c4] 48)).heap[wr.heap.size]? = some (.cells #[.int .u8 (xi : Int), .slice A4 q c4] 48 (0, 0))) := Y (heap_alloc_new wr _)
     obtain ⟨v4, w4, hr4, ha4⟩ := iM _ w.heap.size g2 u7 done (UInt8.ofNat xi) (HO.out.on hb3) (by have := HSZD.out; have := HENC.out.1; omega) (Nat.le_trans hws hb3.size)
     rw [byteN xi hid4] at hr4
     have HR4 := Y hr4
     have HA4 := Y ha4
     have HB3 := Y (HB.out.trans (hb3.mono hws))
     have HB4 := Y (HB3.out.trans (ha4.below HO.out.blk HB3.out.size))
     have HLT := Y (HO.out.lt)
     have HX4 := Y (ha4.2.1.heap HX3.out (fun e => by have := HO.out.lt _ e; omega))
     have HV4 : Hid (∀ b, v4.ownBlock = some b → b ≠ wr.heap.size) := Y (fun b hb e => by
      rcases ha4.2.2 b hb with h | h
      ·have := HO.out.lt _ h; omega
      ·simp at h; omega)
     have HV4b : Hid (∀ b, v4.ownBlock = some b → w.heap.size ≤ b) := Y (aw ha4.1)
     clear hr4 ha4 hb3
     obtain ⟨z40, z41⟩ := cells2 HX4.out
     go_upto_region 12 with fail
     generalize wr.alloc (.cells #[.int .u8 (xi : Int), .slice A4 q c4] 48) = w3 at HX3 HR4 HA4 HB3 ⊢
     obtain ⟨z30, z31⟩ := cells2 HX3.out
     go_wp2_with (first | (at_builtin; refine aa rfl (.tmp 31) (.tmp 34) 36 rfl _ _ _ w4 rfl rfl HR4.out ?_) | (go_at_call 31; refine (c11 none [] 0 0 q _ rfl (by omega) (Has.nil _ _ _) (by omega)).mono ?_; rintro e w5 ⟨v5, rfl, ho5, hb5⟩; simp only [Nat.zero_add, List.nil_append] at ho5; obtain ⟨A5, c5, rfl, h51, hn5, hh5⟩ := Has.own ho5; obtain ⟨v6, w6, hr6, ha6⟩ := aT w5 w.heap.size (Leb.encU q).length c5 v4 (done ++ [UInt8.ofNat xi]) (Leb.encU q) A5 ((Mod.of_below (T := fun _ => False) hb5).own HA4.out.1 (fun _ _ h => h)) hh5 hn5 (by have := HSZD.out; have := HENC.out.1; simp; omega) (Nat.le_trans HB4.out.size hb5.size); have HR6 := Y hr6; have HA6 := Y ha6; have HB5 := Y (HB4.out.trans (hb5.mono HB4.out.size)); have HB6 := Y (HB5.out.trans (ha6.below HV4b.out HB5.out.size)); have HX6 := Y (ha6.2.1.heap ((hb5.block _ (Array.getElem?_eq_some_iff.1 HX4.out).1).trans HX4.out) (fun e => HV4.out _ e rfl)); clear hr6 ha6 ho5 hb5 hh5; obtain ⟨z60, z61⟩ := cells2 HX6.out; obtain ⟨v7, w7, hr7, ha7⟩ := aT w6 w.heap.size q c4 v6 (done ++ [UInt8.ofNat xi] ++ Leb.encU q) xb A4 HA6.out.1 (HHB.out _ HB6.out) HQ.out.symm (by have := HSZD.out; have := HENC.out.1; have := HQ.out; simp; omega) HB6.out.size; have HR7 := Y hr7; have HA7 := Y ha7; clear hr7 ha7) | (at_builtin; refine aa rfl (.tmp 36) (.tmp 41) 36 rfl _ _ _ w6 rfl rfl HR6.out ?_) | (at_builtin; refine aa rfl (.tmp 43) (.tmp 45) 36 rfl _ _ _ w7 rfl rfl HR7.out ?_))
     go_roundw
     case rel => exact ⟨j + 1, _, by omega, by go_num, Y (by rw [HEA.out, ← List.append_assoc, ← HD.out]; exact HENC.out.2), Y (.inl HA7.out.1), Y (HB6.out.trans (HA7.out.below (aw HA6.out.1) HB6.out.size))⟩
     case measure => simp [intOf]; omega
    ·obtain rfl : n = j := by omega
     have hall : xs.take n = xs := by rw [HN.out, List.take_length]
     have HFIN : Hid (JPost xs w (.returned (.tuple #[u7, .int .i64 0])) wr) := Y (jPost_yes HRA.out HB.out (by have h := HO.out; rw [HD.out, hall] at h; exact h))
     clear hall
     go_wp2_with fail
     go_ret2
     exact HFIN.out
end Go.Proofs.YthkglmkpnhhboaaGreatDoor
