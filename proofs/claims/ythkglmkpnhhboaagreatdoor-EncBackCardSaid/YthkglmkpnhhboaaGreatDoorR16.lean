/-
  name.Valid, name.Take and the document's Take: the name with which any bytes begin, as plain functions; all memory that was there is as it was.
-/
import Derived.Test.YthkglmkpnhhboaaGreatDoorR01
import Derived.Test.YthkglmkpnhhboaaGreatDoorR15
import Derived.Test.YthkglmkpnhhboaaGreatDoorR05
import Derived.Test.YthkglmkpnhhboaaGreatDoorR02
import Derived.Test.YthkglmkpnhhboaaGreatDoorR06
import Derived.OwnWalk
import Derived.Test.YthkglmkpnhhboaaGreatDoorR04
import Derived.Lib.AppendStr
set_option maxRecDepth 100000
set_option maxHeartbeats 4000000
namespace Nm
open U8
def ok (l : List UInt8) : Bool := Leb.okU l 32 && decide (Leb.run l + Leb.used l ≤ l.length) && text ((l.drop (Leb.run l)).take (Leb.used l))
def str (l : List UInt8) : List UInt8 := if ok l = true then (l.drop (Leb.run l)).take (Leb.used l) else []
def cnt (l : List UInt8) : Nat := if ok l = true then Leb.run l + Leb.used l else 0
theorem ok_no {l : List UInt8} (h : Leb.okU l 32 = false) : ok l = false := by unfold ok; rw [h]; rfl
theorem ok_long {l : List UInt8} (h : l.length < Leb.run l + Leb.used l) : ok l = false := by
 unfold ok; rw [decide_eq_false (by omega)]; simp
theorem ok_text {l : List UInt8} (h1 : Leb.okU l 32 = true) (h2 : Leb.run l + Leb.used l ≤ l.length) : ok l = text ((l.drop (Leb.run l)).take (Leb.used l)) := by
 unfold ok; rw [h1, decide_eq_true h2]; simp
end Nm
namespace Go.Proofs.YthkglmkpnhhboaaGreatDoor
open Go.RowKit
def Tb (w : World) : Prop := Lib.Utf8Tabs 0 1 w ∧ 2 ≤ w.heap.size
theorem Tb.on {w w' : World} (h : Tb w) (hb : Below w.heap.size w w') : Tb w' := by
 obtain ⟨⟨h1, h2⟩, h3⟩ := h
 refine ⟨⟨fun c hc => (hb.cell (p := ⟨0, c, none⟩) (by simp; omega)).trans (h1 c hc), fun i hi => ?_⟩, by have := hb.size; omega⟩
 exact ⟨(hb.cell (p := ⟨1, 2 * i, none⟩) (by simp; omega)).trans (h2 i hi).1, (hb.cell (p := ⟨1, 2 * i + 1, none⟩) (by simp; omega)).trans (h2 i hi).2⟩
theorem dc (A : Option Addr) (l : List UInt8) (n c : Nat) (w : World) (hn : n = l.length) (hmax : n ≤ 9223372036854775807) (hc : n ≤ c) (hA : Has w w.heap.size A l) (hT : Tb w) :
  Calls Tryz.prog 90 #[.slice A n c] w fun e w' => e = .returned (.bool (U8.text l)) ∧ Below w.heap.size w w' := by
 have C := Y (valid_any A l n c w hn hmax hc hA hT.1 hT.2)
 clear hn hA hT
 go_enter Tryz.func90, Tryz.ntmps90
 go_wp2_with fail
 refine C.out.mono ?_
 rintro e w' ⟨rfl, hb⟩
 go_wp2_with fail
 go_ret
 exact ⟨rfl, hb⟩
def dY (l : List UInt8) (w : World) (e : Ending) (w' : World) : Prop := e = .returned (.tuple #[.string ⟨(Nm.str l).toArray⟩, .int .i64 (Nm.cnt l : Int), .bool (Nm.ok l)]) ∧ Below w.heap.size w w'
theorem dy {l : List UInt8} {w w' : World} (h : Nm.ok l = false) (hb : Below w.heap.size w w') : dY l w (.returned (.tuple #[.string ⟨#[]⟩, .int .i64 0, .bool false])) w' := by
 refine ⟨?_, hb⟩
 unfold Nm.str Nm.cnt
 rw [h]; rfl
theorem Has.part {w : World} {B : Nat} {ad : Addr} {l : List UInt8} (h : Has w B (some ad) l) (k m : Nat) : Has w B (some (ad.add k)) ((l.drop k).take m) := (h.from k).take m
theorem gQ (A : Option Addr) (l : List UInt8) (n c : Nat) (w : World) (hn : n = l.length) (hmax : n ≤ 140737488355328) (hc : n ≤ c) (hcm : c ≤ 9223372036854775807) (hA : Has w w.heap.size A l) (hT : Tb w) :
  Calls Tryz.prog 48 #[.slice A n c] w (dY l w) := by
 have HC := Y (c8 A l n c 32 w hn (by omega) hA)
 have HA := Y hA
 have HN := Y hn
 have HT := Y hT
 clear hn hA hT
 cases hok : Leb.okU l 32 with
 | false =>
  have e1 : Leb.numU l 32 = 0 := by unfold Leb.numU; rw [hok]; rfl
  have e2 : Leb.cntU l 32 = 0 := by unfold Leb.cntU; rw [hok]; rfl
  rw [e1, e2, hok] at HC
  have HK := Y (Nm.ok_no hok)
  clear e1 e2 hok
  go_enter Tryz.func48, Tryz.ntmps48
  go_wp2_with fail
  refine HC.out.mono ?_
  rintro e w' ⟨rfl, hb⟩
  have HB := Y hb
  clear hb
  go_wp2_with fail
  go_ret3
  exact dy HK.out HB.out
 | true =>
  have e1 : Leb.numU l 32 = (Leb.used l : Int) := by unfold Leb.numU; rw [hok]; rfl
  have e2 : Leb.cntU l 32 = (Leb.run l : Int) := by unfold Leb.cntU; rw [hok]; rfl
  have hu32 : Leb.used l < 4294967296 := by
   have h := hok; unfold Leb.okU at h
   have := (of_decide_eq_true h).2.2.2.2
   have e : (2 : Int) ^ (32 : Int).toNat = 4294967296 := by decide
   rw [e] at this; omega
  have hr1 : 1 ≤ Leb.run l ∧ Leb.run l ≤ n := by
   have h := hok; unfold Leb.okU at h
   have h1 := (of_decide_eq_true h).2.2.1
   have h2 := Leb.run_le l
   have := HN.out
   omega
  rw [e1, e2, hok] at HC
  have HOK := Y hok
  clear e1 e2 hok
  have HLONG := Y (@Nm.ok_long l)
  have HTX := Y (@Nm.ok_text l HOK.out)
  obtain ⟨R, hR⟩ : ∃ R, Leb.run l = R := ⟨_, rfl⟩
  obtain ⟨U, hU⟩ : ∃ U, Leb.used l = U := ⟨_, rfl⟩
  have HR := Y hR
  have HU := Y hU
  rw [hR] at hr1
  rw [hU] at hu32
  rw [hR, hU] at HC HLONG HTX
  clear hR hU
  obtain ⟨hr1, hrn⟩ := hr1
  have hsub : (0 : Int) ≤ (n : Int) - (R : Int) := by omega
  by_cases hlong : n - R < U
  ·have HK := Y (HLONG.out (by have := HN.out; omega))
   have hl : (n : Int) - (R : Int) < (U : Int) := by omega
   go_enter Tryz.func48, Tryz.ntmps48
   go_wp2_with fail
   refine HC.out.mono ?_
   rintro e w' ⟨rfl, hb⟩
   have HB := Y hb
   clear hb
   go_wp2_with fail
   go_ret3
   exact dy HK.out HB.out
  ·have hl : decide ((n : Int) - (R : Int) < (U : Int)) = false := by simp; omega
   have hru : R + U ≤ n := by omega
   have HTX2 := Y (HTX.out (by have := HN.out; omega))
   obtain ⟨ad, rfl⟩ := HA.out.someAddr (by have := HN.out; omega)
   obtain ⟨t, ht⟩ : ∃ t, (l.drop R).take U = t := ⟨_, rfl⟩
   have htl : U = t.length := by rw [← ht]; have := HN.out; simp; omega
   have hAt := HA.out.part R U
   rw [ht] at hAt
   have HAT := Y hAt
   have HTL := Y htl
   have HTT := Y ht
   rw [ht] at HTX2
   clear hAt htl ht HLONG HTX
   by_cases hU0 : U = 0
   ·subst hU0
    have ht0 : t = [] := List.eq_nil_of_length_eq_zero HTL.out.symm
    subst ht0
    have hxt : U8.text [] = true := rfl
    rw [hxt] at HTX2
    go_enter Tryz.func48, Tryz.ntmps48
    go_wp2_with fail
    refine HC.out.mono ?_
    rintro e w' ⟨rfl, hb⟩
    have HB := Y hb
    have HT2 := Y (HT.out.on hb)
    clear hb
    go_wp2_with fail
    all_goals
     refine (dc _ [] 0 _ _ rfl (by omega) (by omega) (Has.nil _ _ _) HT2.out).mono ?_
     rintro e w2 ⟨rfl, hb2⟩
     have HB2 := Y (HB.out.trans (hb2.mono HB.out.size))
     clear hb2
     rw [hxt]
     have hcv := fun A c => bw (w := w2) (B := 0) (n := 0) (A := A) (Has.nil w2 0 A) rfl c
     go_wp2_with fail
     go_ret3
     refine ⟨?_, HB2.out⟩
     unfold Nm.str Nm.cnt
     rw [HTX2.out, if_pos rfl, if_pos rfl, HR.out, HU.out, HTT.out]
     rfl
   ·cases hx : U8.text t with
    | false =>
     rw [hx] at HTX2
     go_enter Tryz.func48, Tryz.ntmps48
     go_wp2_with fail
     refine HC.out.mono ?_
     rintro e w' ⟨rfl, hb⟩
     have HB := Y hb
     have HAT2 := Y (HAT.out.on hb)
     have HT2 := Y (HT.out.on hb)
     clear hb
     go_wp2_with fail
     refine (dc _ t U U _ HTL.out (by omega) (by omega) HAT2.out HT2.out).mono ?_
     rintro e w2 ⟨rfl, hb2⟩
     have HB2 := Y (HB.out.trans (hb2.mono HB.out.size))
     clear hb2
     rw [hx]
     go_wp2_with fail
     go_ret3
     exact dy HTX2.out HB2.out
    | true =>
     rw [hx] at HTX2
     go_enter Tryz.func48, Tryz.ntmps48
     go_wp2_with fail
     refine HC.out.mono ?_
     rintro e w' ⟨rfl, hb⟩
     have HB := Y hb
     have HAT2 := Y (HAT.out.on hb)
     have HT2 := Y (HT.out.on hb)
     clear hb
     go_wp2_with fail
     refine (dc _ t U U _ HTL.out (by omega) (by omega) HAT2.out HT2.out).mono ?_
     rintro e w2 ⟨rfl, hb2⟩
     have HB2 := Y (HB.out.trans (hb2.mono HB.out.size))
     have hcv := bw (HAT2.out.on hb2) HTL.out U
     clear hb2
     rw [hx]
     go_wp2_with fail
     go_ret3
     refine ⟨?_, HB2.out⟩
     unfold Nm.str Nm.cnt
     rw [HTX2.out, if_pos rfl, if_pos rfl, HR.out, HU.out, HTT.out]
     push_cast
     rfl
theorem fm {P : Program} {w : World} {ops : Array Oper} {rest : List Oper} {o : Oper} {a : Act} {Q : Exit → Act → World → Prop} (hgd : o.guard = none) (s x : Operand) (t u : TypeId)
  (ho : o.op = .call { callee := .builtin .append, args := #[s, x], argTypes := #[t, u] }) (v y r : Value) (w' : World) (hs : a.eval s = v) (hx : a.eval x = y)
  (hrun : (Builtin.append_ #[t, u] o.type #[v, y]).run P w = .ok r w') (h : wpList P ops Q rest (a.put o.dst r) w') : wpList P ops Q (o :: rest) a w := by
 refine wpList_plain hgd fun K hK => ?_
 unfold Oper.wp execOp
 simp only [ho, resolve, invoke, builtin, Sem.run_bind, Sem.run_pure, Result.andThen_ok, List.map_toArray, List.map_cons, List.map_nil, hs, hx, hrun]
 exact hK _ _ h
theorem f5 (s : ByteArray) : Lib.strCells s = bytesOf s.data.toList := rfl
theorem nappend_any (A : Option Addr) (l : List UInt8) (n c : Nat) (s : ByteArray) (w : World) (hn : n = l.length) (hsz : n ≤ 1000000) (hss : s.size ≤ 1000000) (hA : Has w w.heap.size A l) :
  Calls Tryz.prog 144 #[.slice A n c, .string s] w fun e w' => ∃ v, e = .returned v ∧ w'.ownsRow w.heap.size 5 1 v (n + (Leb.encU s.size).length + s.size) (bytesOf (l ++ Leb.encU s.size ++ s.data.toList)) ∧ Below w.heap.size w w' := by
 obtain ⟨i0, hi, hz0, hz1, hz2⟩ := info_parts info5
 have HC := Y (c11 A l n c s.size w hn (by omega) hA (by omega))
 have h10 := Leb.encU_le10 s.size (by omega)
 clear hn hA
 go_enter Tryz.func144, Tryz.ntmps144
 go_wp2_with fail
 refine HC.out.mono ?_
 rintro e w1 ⟨v, rfl, ho, hb⟩
 obtain ⟨v', w', hr, ho', hg, _⟩ := Lib.run_append_own_string (P := Tryz.prog) (w := w1) w.heap.size 36 9 36 5 i0 und22 und9 hi hz0 hz1 hz2 v _ _ ho s (by unfold maxLen; omega) (by omega) hb.size
 rw [f5, ← aC] at ho'
 have HR := Y hr
 have HO := Y ho'
 have HB := Y (hb.grown hg hb.size (aw ho))
 clear hr ho' hg ho hb
 go_wp2_with (at_builtin; refine fm rfl (.tmp 9) (.tmp 10) 36 9 rfl _ _ _ w' rfl rfl HR.out ?_)
 go_ret
 exact ⟨v', rfl, HO.out, HB.out⟩
end Go.Proofs.YthkglmkpnhhboaaGreatDoor
