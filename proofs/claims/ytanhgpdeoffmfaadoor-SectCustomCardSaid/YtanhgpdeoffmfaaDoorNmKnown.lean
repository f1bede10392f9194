/-
  name.Append's contract, and the statements' first step: the chapter's rows hold.
-/
import Derived.Test.YtanhgpdeoffmfaaDoorNmTake
import Derived.Test.YtanhgpdeoffmfaaDoorLebApp
import Derived.Test.YtanhgpdeoffmfaaDoorAppends
import Derived.Lib.AppendStr
namespace Go.Proofs.YtanhgpdeoffmfaaDoor
open Go.RowKit
theorem wpList_appends2 {P : Program} {w : World} {ops : Array Oper} {rest : List Oper} {o : Oper} {a : Act} {Q : Exit → Act → World → Prop} (hgd : o.guard = none) (s x : Operand) (t u : TypeId)
    (ho : o.op = .call { callee := .builtin .append, args := #[s, x], argTypes := #[t, u] }) (v y r : Value) (w' : World) (hs : a.eval s = v) (hx : a.eval x = y)
    (hrun : (Builtin.append_ #[t, u] o.type #[v, y]).run P w = .ok r w') (h : wpList P ops Q rest (a.put o.dst r) w') : wpList P ops Q (o :: rest) a w := by
  refine wpList_plain hgd fun K hK => ?_
  unfold Oper.wp execOp
  simp only [ho, resolve, invoke, builtin, Sem.run_bind, Sem.run_pure, Result.andThen_ok, List.map_toArray, List.map_cons, List.map_nil, hs, hx, hrun]
  exact hK _ _ h
theorem strCells_bytes (s : ByteArray) : Lib.strCells s = bytesOf s.data.toList := rfl
set_option maxHeartbeats 1000000 in
theorem nappend_any (A : Option Addr) (l : List UInt8) (n c : Nat) (s : ByteArray) (w : World) (hn : n = l.length) (hsz : n ≤ 1000000) (hss : s.size ≤ 1000000) (hA : Has w w.heap.size A l) :
    Calls Tryd.prog 16 #[.slice A n c, .string s] w fun e w' => ∃ v, e = .returned v ∧ w'.ownsRow w.heap.size 5 1 v (n + (Leb.encU s.size).length + s.size) (bytesOf (l ++ Leb.encU s.size ++ s.data.toList)) ∧ Below w.heap.size w w' := by
  obtain ⟨i0, hi, hz0, hz1, hz2⟩ := info_parts info5
  have HC := Lib.hid (c11 A l n c s.size w hn (by omega) hA (by omega))
  have h10 := Leb.encU_le10 s.size (by omega)
  clear hn hA
  go_enter Tryd.func16, Tryd.ntmps16
  go_wp2_with fail
  refine HC.out.mono ?_
  rintro e w1 ⟨v, rfl, ho, hb⟩
  obtain ⟨v', w', hr, ho', hg, _⟩ := Lib.run_append_own_string (P := Tryd.prog) (w := w1) w.heap.size 22 9 22 5 i0 und22 und9 hi hz0 hz1 hz2 v _ _ ho s (by unfold maxLen; omega) (by omega) hb.size
  rw [strCells_bytes, ← bytesOf_append] at ho'
  have HR := Lib.hid hr
  have HO := Lib.hid ho'
  have HB := Lib.hid (hb.grown hg hb.size (own_ge ho))
  clear hr ho' hg ho hb
  go_wp2_with (at_builtin; refine wpList_appends2 rfl (.tmp 9) (.tmp 10) 22 9 rfl _ _ _ w' rfl rfl HR.out ?_)
  go_ret
  exact ⟨v', rfl, HO.out, HB.out⟩
theorem take_lit (l : List UInt8) (n : Nat) (w : World) (cs : Array Value) (hcs : cs = (bytesOf l).toArray) (hn : n = l.length) (hn5 : n ≤ 5) (hT : Tb w) (S : ByteArray) (K : Int) (ok : Bool) (h1 : (⟨(Nm.str l).toArray⟩ : ByteArray) = S) (h2 : (Nm.cnt l : Int) = K) (h3 : Nm.ok l = ok) :
    Calls Tryd.prog 35 #[.slice (some ⟨w.heap.size, 0, none⟩) n n] (w.alloc (.cells cs 5)) fun e w' => e = .returned (.tuple #[.string S, .int .i64 K, .bool ok]) ∧ Below w.heap.size w w' := by
  subst hcs h1 h2 h3
  have hb : Below w.heap.size w (w.alloc (.cells (bytesOf l).toArray 5)) := (Below.refl _ _).alloc (Nat.le_refl _) _
  refine (ntake_any _ l n n _ hn (by omega) (Nat.le_refl _) (by omega) ((Has.lit w l _).more (by simp)) (hT.on hb)).mono ?_
  rintro e w' ⟨rfl, h⟩
  exact ⟨rfl, hb.trans (h.mono hb.size)⟩
theorem valid_lit (l : List UInt8) (n : Nat) (w : World) (cs : Array Value) (hcs : cs = (bytesOf l).toArray) (hn : n = l.length) (hn5 : n ≤ 5) (hT : Tb w) (ok : Bool) (h3 : U8.text l = ok) :
    Calls Tryd.prog 18 #[.slice (some ⟨w.heap.size, 0, none⟩) n n] (w.alloc (.cells cs 5)) fun e w' => e = .returned (.bool ok) ∧ Below w.heap.size w w' := by
  subst hcs h3
  have hb : Below w.heap.size w (w.alloc (.cells (bytesOf l).toArray 5)) := (Below.refl _ _).alloc (Nat.le_refl _) _
  refine (nvalid_any _ l n n _ hn (by omega) (Nat.le_refl _) ((Has.lit w l _).more (by simp)) (hT.on hb)).mono ?_
  rintro e w' ⟨rfl, h⟩
  exact ⟨rfl, hb.trans (h.mono hb.size)⟩
theorem enc_main : Leb.encU (ByteArray.size ⟨#[109, 97, 105, 110]⟩) = [4] := by
  rw [show ByteArray.size ⟨#[109, 97, 105, 110]⟩ = 4 from rfl]; exact Leb.encU_small (by omega)
end Go.Proofs.YtanhgpdeoffmfaaDoor
