/-
  What a text in UTF-8 is, as a plain function on lists of bytes: the first character's length by its first byte and the ranges of those behind it; plain mathematics.
-/
import Derived.Test.YtmpelmihdpomjaaGreatSo01
import Derived.Lib.LaidU8T
set_option maxRecDepth 100000
set_option maxHeartbeats 4000000
namespace U8
def size (c:Nat):Nat:=if c < 194 then 0 else if c < 224 then 2 else if c < 240 then 3 else if c < 245 then 4 else 0
def lo (c:Nat):Nat:=if c = 224 then 160 else if c = 240 then 144 else 128
def hi (c:Nat):Nat:=if c = 237 then 159 else if c = 244 then 143 else 191
def byte (l:List UInt8) (k:Nat):Nat:=(l.getD k 0).toNat
def one (l:List UInt8):Nat :=
 if l.length = 0 then 0 else if byte l 0 < 128 then 1
 else if size (byte l 0) = 0 ∨ l.length < size (byte l 0) then 0
 else if byte l 1 < lo (byte l 0) ∨ hi (byte l 0) < byte l 1 then 0
 else if 3 ≤ size (byte l 0) ∧ (byte l 2 < 128 ∨ 191 < byte l 2) then 0
 else if 4 ≤ size (byte l 0) ∧ (byte l 3 < 128 ∨ 191 < byte l 3) then 0
 else size (byte l 0)
def run:Nat → List UInt8 → Bool
 | 0,_=>true
 | f + 1,l=>if l.length = 0 then true else if one l = 0 then false else run f (l.drop (one l))
def text (l:List UInt8):Bool:=run l.length l
def Low (l:List UInt8) (k:Nat):Prop:=k ≤ l.length ∧ ∀ j,j < k → byte l j < 128
theorem byte_drop (l:List UInt8) (k j:Nat):byte (l.drop k) j = byte l (k + j):=by
 unfold byte;rw [List.getD_eq_getElem?_getD,List.getD_eq_getElem?_getD,List.getElem?_drop]
theorem Low.more {l:List UInt8} {a b:Nat} (h1:Low l a) (h2:Low (l.drop a) b):Low l (a + b):=by
 obtain ⟨k1,g1⟩:=h1
 obtain ⟨k2,g2⟩:=h2
 rw [List.length_drop] at k2
 refine ⟨by omega,fun j hj=>?_⟩
 by_cases hja:j < a
 ·exact g1 j hja
 ·have:=g2 (j - a) (by omega)
  rw [byte_drop,show a + (j - a) = j by omega] at this
  exact this
theorem tables:(List.range 128).all (fun k=>let c:=128 + k
  (Go.Lib.firstT c % 8 == if size c = 0 then 1 else size c) && decide (Go.Lib.firstT c < 256) && decide (Go.Lib.firstT c / 16 < 16) && (size c == 0 || (Go.Lib.accLo (Go.Lib.firstT c / 16) == lo c && Go.Lib.accHi (Go.Lib.firstT c / 16) == hi c))) = true:=by decide +kernel
end U8
