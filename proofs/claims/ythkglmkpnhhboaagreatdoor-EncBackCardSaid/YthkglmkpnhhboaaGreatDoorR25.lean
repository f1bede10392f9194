/-
  Layer 7's writer: what it has written so far; how a call of a method of it goes on.
-/
import Derived.Test.YthkglmkpnhhboaaGreatDoorR01
import Derived.Test.YthkglmkpnhhboaaGreatDoorR10
import Derived.Test.YthkglmkpnhhboaaGreatDoorR23
import Derived.Test.YthkglmkpnhhboaaGreatDoorR06
import Derived.Test.YthkglmkpnhhboaaGreatDoorR04
import Derived.Test.YthkglmkpnhhboaaGreatDoorR07
set_option maxRecDepth 100000
set_option maxHeartbeats 4000000
namespace Go.Proofs.YthkglmkpnhhboaaGreatDoor
open Go.RowKit Ins Bin
open Classical in
noncomputable def adv (s : Option (List UInt8)) (ok : Prop) (y : List UInt8) : Option (List UInt8) := if ok then s.map (· ++ y) else none
theorem bx {s : Option (List UInt8)} {ok : Prop} {y : List UInt8} (h : ok) : adv s ok y = s.map (· ++ y) := by unfold adv; rw [if_pos h]
theorem bM {s : Option (List UInt8)} {ok : Prop} {y : List UInt8} (h : ¬ ok) : adv s ok y = none := by unfold adv; rw [if_neg h]
theorem adv_none {ok : Prop} {y : List UInt8} : adv none ok y = none := by unfold adv; split <;> rfl
theorem ah {s : Option (List UInt8)} {p q : Prop} {y z : List UInt8} : adv (adv s p y) q z = adv s (p ∧ q) (y ++ z) := by
 by_cases hp : p
 ·by_cases hq : q
  ·rw [bx hp, bx hq, bx ⟨hp, hq⟩]
   cases s with
   | none => rfl
   | some l => simp
  ·rw [bM hq, bM (fun h => hq h.2)]
 ·rw [bM hp, adv_none, bM (fun h => hp h.1)]
theorem aj {s : Option (List UInt8)} {p q : Prop} {y z : List UInt8} (h : p ↔ q) (hy : q → y = z) : adv s p y = adv s q z := by
 by_cases hq : q
 ·rw [bx (h.2 hq), bx hq, hy hq]
 ·rw [bM (fun hp => hq (h.1 hp)), bM hq]
def WS (w : World) (R : Nat) (v : Value) (s : Option (List UInt8)) : Prop :=
 ∃ bs : List UInt8, w.heap[R]? = some (.cells #[v, .bool s.isNone] 104 (0, 0)) ∧ w.ownsRow R 5 1 v bs.length (bytesOf bs) ∧ bs.length ≤ 65536 ∧ 2 ≤ R ∧
  ∀ l, s = some l → l.length ≤ 65536 ∧ bs = l ∨ 65536 < l.length ∧ bs.length = 65536
theorem WS.two {w : World} {R : Nat} {v : Value} {s : Option (List UInt8)} (h : WS w R v s) : 2 ≤ R := by
 obtain ⟨_, _, _, _, h, _⟩ := h
 exact h
theorem WS.lt {w : World} {R : Nat} {v : Value} {s : Option (List UInt8)} (h : WS w R v s) : R < w.heap.size := by
 obtain ⟨_, h, _⟩ := h
 exact (Array.getElem?_eq_some_iff.1 h).1
theorem WS.ge {w : World} {R : Nat} {v : Value} {s : Option (List UInt8)} (h : WS w R v s) : ∀ k, v.ownBlock = some k → R ≤ k := by
 obtain ⟨_, _, h, _⟩ := h
 exact aw h
theorem WS.own_lt {w : World} {R : Nat} {v : Value} {s : Option (List UInt8)} (h : WS w R v s) : ∀ k, v.ownBlock = some k → k < w.heap.size := by
 obtain ⟨_, _, h, _⟩ := h
 exact Go.Proofs.YthkglmkpnhhboaaGreatDoor.own_lt h
theorem iF {w : World} {R n : Nat} {v : Value} {xs : List Value} {cs : Array Value} (h : w.heap[R]? = some (.cells cs 104 (0, 0))) (ho : w.ownsRow R 5 1 v n xs) : v.ownBlock ≠ some R := by
 intro e
 rcases ho.2 with ⟨rfl, _⟩ | ⟨g, cap, cur, rfl, _, hg, _⟩
 ·cases e
 ·injection e with e
  subst e
  rw [h] at hg
  injection hg with hg
  injection hg with _ hg
  exact absurd hg (by decide)
def WMod (R : Nat) (w : World) (v : Value) (w' : World) (v' : Value) : Prop :=
 Mod (fun k => k = R ∨ v.ownBlock = some k) w w' ∧ ∀ g, v'.ownBlock = some g → v.ownBlock = some g ∨ w.heap.size ≤ g
theorem WMod.refl (R : Nat) (w : World) (v : Value) : WMod R w v w v := ⟨Mod.refl _ _, fun _ h => .inl h⟩
theorem WMod.trans {R : Nat} {w w1 w2 : World} {v v1 v2 : Value} (h : WMod R w v w1 v1) (h2 : WMod R w1 v1 w2 v2) : WMod R w v w2 v2 := by
 refine ⟨h.1.trans h2.1 (fun k hk e => ?_), fun g hg => ?_⟩
 ·rcases e with e | e
  ·exact .inl e
  ·rcases h.2 k e with e | e
   ·exact .inr e
   ·omega
 ·rcases h2.2 g hg with e | e
  ·exact h.2 g e
  ·have := h.1.size
   exact .inr (by omega)
theorem WMod.on {R : Nat} {w w1 : World} (v : Value) (h : Below w.heap.size w w1) : WMod R w v w1 v := ⟨Mod.of_below h, fun _ h => .inl h⟩
theorem WS.on {w w1 : World} {R : Nat} {v : Value} {s : Option (List UInt8)} (h : WS w R v s) (hb : Below w.heap.size w w1) : WS w1 R v s := by
 obtain ⟨bs, h1, h2, h3⟩ := h
 have hm : Mod (fun _ => False) w w1 := Mod.of_below hb
 exact ⟨bs, hm.heap h1 (fun h => h), hm.own h2 (fun _ _ h => h), h3⟩
theorem WS.alloc {w : World} {R : Nat} {v : Value} {s : Option (List UInt8)} (h : WS w R v s) (o : Obj) : WS (w.alloc o) R v s := h.on ((Below.refl _ _).alloc (Nat.le_refl _) o)
theorem WMod.low {R : Nat} {w w1 : World} {v v1 : Value} {s : Option (List UInt8)} (h : WMod R w v w1 v1) (hs : WS w R v s) : Mod (R ≤ ·) w w1 :=
 h.1.more (fun k _ e => by
  rcases e with e | e
  ·omega
  ·exact hs.ge k e)
theorem WS.sat {w : World} {R : Nat} {v : Value} {l l' : List UInt8} (h : WS w R v (some l)) (h1 : 65536 < l.length) (h2 : 65536 < l'.length) : WS w R v (some l') := by
 obtain ⟨bs, a1, a2, a3, a4, a5⟩ := h
 refine ⟨bs, a1, a2, a3, a4, fun l0 e => ?_⟩
 injection e with e
 subst e
 rcases a5 l rfl with h | h
 ·omega
 ·exact .inr ⟨h2, h.2⟩
def ab (R : Nat) (w : World) (v : Value) (s' : Option (List UInt8)) (e : Ending) (w' : World) : Prop := e = .returned (.tuple #[]) ∧ ∃ v', WS w' R v' s' ∧ WMod R w v w' v'
theorem ab.ahead {R : Nat} {w w1 : World} {v : Value} {s' : Option (List UInt8)} (hb : Below w.heap.size w w1) {e : Ending} {w' : World} (h : ab R w1 v s' e w') : ab R w v s' e w' := by
 obtain ⟨rfl, v', h1, h2⟩ := h
 exact ⟨rfl, v', h1, (WMod.on v hb).trans h2⟩
theorem wp_appendW {P : Program} {o : Oper} {a : Act} {w : World} {K : Act → World → Prop} {Q : Exit → Act → World → Prop} (s x : Operand) (t : TypeId)
  (ho : o.op = .call { callee := .builtin .append, args := #[s, x], argTypes := #[t, t] }) (v u r : Value) (w' : World) (hs : a.eval s = v) (hx : a.eval x = u)
  (hrun : (Builtin.append_ #[t, t] o.type #[v, u]).run P w = .ok r w') (h : K (a.put o.dst r) w') : o.wp P a w K Q := by
 unfold Oper.wp execOp
 simp only [ho, resolve, invoke, builtin, Sem.run_bind, Sem.run_pure, Result.andThen_ok, List.map_toArray, List.map_cons, List.map_nil, hs, hx, hrun]
 exact h
theorem ws_put {w w' : World} {R k : Nat} {v v' : Value} {s : Option (List UInt8)} {bs y : List UInt8} (h1 : w.heap[R]? = some (.cells #[v, .bool s.isNone] 104 (0, 0))) (h2 : w.ownsRow R 5 1 v bs.length (bytesOf bs)) (h3 : bs.length ≤ 65536) (h4 : 2 ≤ R)
  (h5 : ∀ l, s = some l → l.length ≤ 65536 ∧ bs = l ∨ 65536 < l.length ∧ bs.length = 65536) (hk : k = min y.length (65536 - bs.length)) (ha : Adds R w v w' v' (bs ++ y.take k)) :
  WS (w'.setCell ⟨R, 0, none⟩ v') R v' (adv s True y) ∧ WMod R w v (w'.setCell ⟨R, 0, none⟩ v') v' := by
 have hne := iF h1 h2
 have hR : w'.heap[R]? = some (.cells #[v, .bool s.isNone] 104 (0, 0)) := ha.2.1.heap h1 hne
 have hne' := iF hR ha.1
 have hlt : R < w.heap.size := (Array.getElem?_eq_some_iff.1 h1).1
 have hM : Mod (· = R) w' (w'.setCell ⟨R, 0, none⟩ v') := Mod.setCell (T := (· = R)) (Mod.refl _ w') (fun _ => rfl) v'
 refine ⟨⟨bs ++ y.take k, ?_, hM.own ha.1 (fun g hg e => hne' (by rw [hg, e])), ?_, h4, ?_⟩, ?_, ?_⟩
 ·rw [heap_setCell_same w' R 0 _ _ _ hR]
  have : (adv s True y).isNone = s.isNone := by
   rw [bx trivial]
   cases s <;> rfl
  rw [this]
  rfl
 ·rw [List.length_append, List.length_take]
  omega
 ·intro l e
  rw [bx trivial] at e
  cases s with
  | none => cases e
  | some l0 =>
   injection e with e
   subst e
   have hl : (l0 ++ y).length = l0.length + y.length := List.length_append
   rcases h5 l0 rfl with ⟨q1, rfl⟩ | ⟨q1, q2⟩
   ·by_cases hfit : y.length ≤ 65536 - bs.length
    ·rw [hk, Nat.min_eq_left hfit, List.take_of_length_le (Nat.le_refl _)]
     by_cases hz : (bs ++ y).length ≤ 65536
     ·exact .inl ⟨hz, rfl⟩
     ·rw [hl] at hz; omega
    ·exact .inr ⟨by rw [hl]; omega, by rw [List.length_append, List.length_take]; omega⟩
   ·exact .inr ⟨by rw [hl]; omega, by rw [List.length_append, List.length_take]; omega⟩
 ·exact (ha.2.1.more (fun _ _ h => .inr h)).trans (hM.more (T' := fun k => k = R ∨ v.ownBlock = some k) (fun _ _ h => .inl h)) (fun _ _ h => h)
 ·exact ha.2.2
end Go.Proofs.YthkglmkpnhhboaaGreatDoor
