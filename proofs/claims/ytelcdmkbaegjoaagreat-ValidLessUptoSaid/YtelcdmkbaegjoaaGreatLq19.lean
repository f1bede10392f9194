/-
  Layer 11's statements: rows of records that a law makes, apart from what was there.
-/
import Derived.Test.YtelcdmkbaegjoaaGreatLq01
import Derived.Test.YtelcdmkbaegjoaaGreatLq18
set_option maxRecDepth 100000
set_option maxHeartbeats 4000000
namespace Go.Proofs.YtelcdmkbaegjoaaGreat
open Go.RowKit Ins Bin
instance : Ones El := ⟨fun h u hu => by
 obtain ⟨a, b, rfl, _, h1, h2⟩ := h
 simp at hu
 rcases hu with rfl | rfl | rfl
 ·rfl
 ·exact ab.one h1
 ·exact ab.one h2⟩
theorem cZ {α : Type} [Lay α] {t : TypeId} {w : World} {base : Nat} {S : Nat → Prop} {v : Value} {xs : List α} (h : OwnL t w base S v xs) : ∃ A c, v = .slice A xs.length c ∧ xs.length ≤ c ∧ c ≤ maxLen := by
 obtain ⟨ys, rfl, h1, _⟩ := h
 rcases h1.2 with ⟨rfl, h3⟩ | ⟨g, cap, cur, rfl, hb, hh, hc, hm, _⟩
 ·exact ⟨none, 0, by rw [h3], by omega, by unfold maxLen; omega⟩
 ·exact ⟨_, cap, rfl, hc, hm⟩
def az {α : Type} [Lay α] (t : TypeId) (N B : Nat) (w : World) (v : Value) (xs : List α) : Prop := OwnL t w B (· < B) v xs ∧ ∀ k, v.ownBlock = some k → N ≤ k
section
variable {α : Type} [Lay α] {t : TypeId} {N B : Nat} {w w' : World} {v : Value} {xs : List α}
theorem az.lit0 (t : TypeId) (w : World) (N B : Nat) (hN : N ≤ w.heap.size) (hB : B ≤ w.heap.size) : az t N B (w.alloc (.cells #[] t)) (.slice (some ⟨w.heap.size, 0, none⟩) 0 0) ([] : List α) :=
 ⟨OwnL.lit0 _ _ _ _ hB, fun k hk => by simp [Value.ownBlock] at hk; omega⟩
theorem az.lt (h : az t N B w v xs) : ∀ k, v.ownBlock = some k → N ≤ k ∧ k < w.heap.size := fun k hk => ⟨h.2 k hk, (OwnL.lt h.1 k hk).2⟩
theorem az.mod {T : Nat → Prop} (h : az t N B w v xs) (hm : Mod T w w') (h1 : ∀ k, k < B → ¬ T k) (h2 : ∀ k, v.ownBlock = some k → ¬ T k) : az t N B w' v xs :=
 ⟨OwnL.mod h.1 hm h2 (fun g _ hg => h1 g hg), h.2⟩
theorem az.on (h : az t N B w v xs) (hb : Below w.heap.size w w') : az t N B w' v xs := h.mod (T := fun _ => False) (Mod.of_below hb) (fun _ _ h => h) (fun _ _ h => h)
theorem az.slice (h : az t N B w v xs) : ab w (· < w.heap.size) xs v := by
 obtain ⟨⟨ys, h0, h1, h2⟩, _⟩ := h
 have h' : OwnL t w 0 (· < B) v xs := ⟨ys, h0, own_base h1 (Nat.zero_le _), h2⟩
 exact (h'.tell (fun _ _ => Nat.zero_le _)).more (fun k hk _ => hk)
theorem ownV_tell {base : Nat} {S S' : Nat → Prop} (h : OwnL t w base S v xs) (h1 : ∀ g, S g → S' g) (h2 : ∀ g, v.ownBlock = some g → S' g) : ab w S' xs v := by
 obtain ⟨ys, q0, q1, q2⟩ := h
 have q1' := q1
 rcases q1.2 with ⟨rfl, h3⟩ | ⟨g, cap, cur, rfl, hb, hh, hc, hm, _⟩
 ·have : xs = [] := List.eq_nil_of_length_eq_zero h3
  subst this
  exact ab.nil _ _
 ·refine ⟨_, cap, rfl, hc, hm, fun e => (by cases e), fun k x hk => ?_⟩
  rw [← q0, List.getElem?_map, Option.map_eq_some_iff] at hk
  obtain ⟨y, hy, rfl⟩ := hk
  refine ⟨g, 0, y.2, rfl, h2 g rfl, (Array.getElem?_eq_some_iff.1 hh).1, Lay.more (q2 y (List.mem_of_getElem? hy)) (fun g _ hg => h1 g hg), fun j u hj => ?_⟩
  have := q1'.cells (g := g) rfl (k * Lay.size α + j) u (cM ys q2 k y hy j u hj)
  rw [addr_at] at this
  have e : (0 + (k * Lay.size α + j)) = 0 + k * Lay.size α + j := by omega
  rwa [e] at this
theorem az.sliceN (h : az t N B w v xs) {Z : Nat} (h1 : B ≤ Z) (h2 : Z < N) (h3 : B ≤ w.heap.size) : ab w (fun k => k < w.heap.size ∧ k ≠ Z) xs v :=
 ownV_tell h.1 (fun g (hg : g < B) => ⟨by omega, by omega⟩) (fun g hg => ⟨(h.lt g hg).2, by have := (h.lt g hg).1; omega⟩)
theorem az.app [Ones α] {st : TypeId} {z : Value} {by' : Nat} (hu : Tryz.prog.underlying st = some (.slice t)) (hi0 : (Tryz.prog.info? t).map (fun i => (i.zero, i.size, i.bytes)) = some (some z, Lay.size α, by')) (hby : by' ≤ 4096) (hzs : z.cells.size = Lay.size α) (hpos : 0 < Lay.size α)
  (h : az t N B w v xs) (hN : N ≤ w.heap.size) (hBN : B ≤ N) (A : Option Addr) (n c : Nat) (ys : List α) (hA : HasL w (· < B) A ys) (hn : n = ys.length) (hsz : xs.length + n ≤ 1000000000) :
  ∃ A' c' w', (Builtin.append_ #[st, st] st #[v, .slice A n c]).run Tryz.prog w = .ok (.slice A' (xs.length + n) c') w' ∧ az t N B w' (.slice A' (xs.length + n) c') (xs ++ ys) ∧ Below N w w' := by
 subst hn
 obtain ⟨v', w', hrun, hO, hM, hT⟩ := appendL hu hi0 hby hzs hpos w B (· < B) v xs ys A ys.length c h.1 hA rfl (by omega) (by omega) (fun g _ hg e => by have := h.2 g e; omega)
 obtain ⟨A', c', e, _⟩ := cZ hO
 rw [List.length_append] at e
 subst e
 exact ⟨A', c', w', hrun, ⟨hO.more (fun g _ hg => hg.1), fun k hk => by
  rcases hT k hk with h' | h'
  ·exact h.2 k h'
  ·omega⟩, hM.below hN (fun k hk e => by have := h.2 k e; omega)⟩
end
theorem az.exp {N B : Nat} {w : World} {v : Value} {xs : List Exp} (h : az 61 N B w v xs) (hN : N ≤ w.heap.size) (hBN : B ≤ N) (x : Exp) (hx : x.index < 4294967296) (L : Nat) (hL : w.heap[L]? = some (.cells #[strV x.name, .int .u8 (x.kind.toNat : Int), .int .u32 (x.index : Int)] 61 (0, 0))) (hne : v.ownBlock ≠ some L) (hsz : xs.length + 1 ≤ 1000000000) :
  ∃ A' c' w', (Builtin.append_ #[27, 27] 27 #[v, .slice (some ⟨L, 0, none⟩) 1 1]).run Tryz.prog w = .ok (.slice A' (xs.length + 1) c') w' ∧ az 61 N B w' (.slice A' (xs.length + 1) c') (xs ++ [x]) ∧ Below N w w' := by
 have hA : HasL w (· = L) (some ⟨L, 0, none⟩) [x] := fun k y hk => by
  cases k with
  | zero =>
   simp at hk
   subst hk
   refine ⟨L, 0, [strV x.name, .int .u8 (x.kind.toNat : Int), .int .u32 (x.index : Int)], rfl, rfl, (Array.getElem?_eq_some_iff.1 hL).1, ⟨rfl, hx⟩, fun j u hj => ?_⟩
   rw [cell_of_row w L _ _ _ (0, 0) hL]
   simpa using hj
  | succ k => simp at hk
 obtain ⟨⟨ys, h0, h1, h2⟩, hb⟩ := h
 obtain ⟨v', w', hrun, hO, hM, hT⟩ := appendL undExp infExp (by decide) rfl (by decide) w B (· = L) v xs [x] (some ⟨L, 0, none⟩) 1 1 ⟨ys, h0, h1, fun y hy => h2 y hy⟩ hA rfl (by simp; omega) (by omega) (fun g _ hg e => by subst hg; exact hne e)
 obtain ⟨A', c', e, _⟩ := cZ hO
 rw [List.length_append] at e
 subst e
 obtain ⟨zs, g0, g1, g2⟩ := hO
 exact ⟨A', c', w', hrun, ⟨⟨zs, g0, g1, fun y hy => g2 y hy⟩, fun k hk => by
  rcases hT k hk with h' | h'
  ·exact hb k h'
  ·omega⟩, hM.below hN (fun k hk e => by have := hb k e; omega)⟩
section
variable {N B n c : Nat} {W : World} {v : Value} {es : List Exp} {A : Option Addr} {x : Exp}
theorem chain_expA (hM : az 61 N B W v ([] : List Exp)) (hN : N ≤ W.heap.size) (hBN : B ≤ N) (hp : HasL W (· < B) A es) (hn : n = es.length) (hsz : n ≤ 100000000) (hx : x.index < 4294967296) :
  ∃ A5 c5 w5 A6 c6 w6, (Builtin.append_ #[27, 27] 27 #[v, .slice A n c]).run Tryz.prog W = .ok (.slice A5 n c5) w5 ∧
   (Builtin.append_ #[27, 27] 27 #[.slice A5 n c5, .slice (some ⟨w5.heap.size, 0, none⟩) 1 1]).run Tryz.prog (w5.alloc (.cells #[strV x.name, .int .u8 (x.kind.toNat : Int), .int .u32 (x.index : Int)] 61)) = .ok (.slice A6 (n + 1) c6) w6 ∧
   az 61 N B w6 (.slice A6 (n + 1) c6) (es ++ [x]) ∧ Below N W w5 ∧ Below N W w6 := by
 obtain ⟨A5, c5, w5, hr5, hM5, hb5⟩ := hM.app undExp infExp (by decide) rfl (by decide) hN hBN A n c es hp hn (by simp; omega)
 simp only [List.length_nil, Nat.zero_add, List.nil_append] at hr5 hM5
 have hN5 := Nat.le_trans hN hb5.size
 have hba : Below w5.heap.size w5 (w5.alloc (.cells #[strV x.name, .int .u8 (x.kind.toNat : Int), .int .u32 (x.index : Int)] 61)) := (Below.refl _ _).alloc (Nat.le_refl _) _
 obtain ⟨A6, c6, w6, hr6, hM6, hb6⟩ := (hM5.on hba).exp (Nat.le_trans hN5 hba.size) hBN x hx w5.heap.size (heap_alloc_new w5 _) (fun e => by have := (hM5.lt _ e).2; omega) (by omega)
 rw [← hn] at hr6 hM6
 exact ⟨A5, c5, w5, A6, c6, w6, hr5, hr6, hM6, hb5, (hb5.trans (hba.mono hN5)).trans hb6⟩
theorem dr {L : Nat} (hM : az 61 N B W v ([] : List Exp)) (hN : N ≤ W.heap.size) (hBN : B ≤ N) (hp : HasL W (· < B) A es) (hn : n = es.length) (hsz : n ≤ 100000000) (hx : x.index < 4294967296)
  (hL : W.heap[L]? = some (.cells #[strV x.name, .int .u8 (x.kind.toNat : Int), .int .u32 (x.index : Int)] 61 (0, 0))) (hNL : N ≤ L) (hne : v.ownBlock ≠ some L) :
  ∃ A5 c5 w5 A6 c6 w6, (Builtin.append_ #[27, 27] 27 #[v, .slice A n c]).run Tryz.prog W = .ok (.slice A5 n c5) w5 ∧
   (Builtin.append_ #[27, 27] 27 #[.slice A5 n c5, .slice (some ⟨L, 0, none⟩) 1 1]).run Tryz.prog w5 = .ok (.slice A6 (n + 1) c6) w6 ∧
   az 61 N B w6 (.slice A6 (n + 1) c6) (es ++ [x]) ∧ Below N W w5 ∧ Below N W w6 := by
 subst hn
 have hLs : L < W.heap.size := (Array.getElem?_eq_some_iff.1 hL).1
 obtain ⟨v5, w5, hrun, hO, hMd, hT⟩ := appendL undExp infExp (by decide) rfl (by decide) W B (· < B) v [] es A es.length c hM.1 hp rfl (by simp; omega) (by omega) (fun g _ hg e => by have := hM.2 g e; omega)
 obtain ⟨A5, c5, e5, _⟩ := cZ hO
 simp only [List.nil_append] at e5 hO
 subst e5
 have hM5 : az 61 N B w5 (.slice A5 es.length c5) es := ⟨hO.more (fun g _ hg => hg.1), fun k hk => by
  rcases hT k hk with h' | h'
  ·exact hM.2 k h'
  ·omega⟩
 have hb5 : Below N W w5 := hMd.below hN (fun k hk e => by have := hM.2 k e; omega)
 obtain ⟨A6, c6, w6, hr6, hM6, hb6⟩ := hM5.exp (Nat.le_trans hN hb5.size) hBN x hx L (hMd.heap hL hne) (fun e => by
  rcases hT L e with h | h
  ·exact hne h
  ·omega) (by omega)
 exact ⟨A5, c5, w5, A6, c6, w6, hrun, hr6, hM6, hb5, hb5.trans hb6⟩
end
theorem aP {α : Type} [Lay α] {w w' : World} {B : Nat} {A : Option Addr} {xs : List α} (h : HasL w (· < w.heap.size) A xs) (hb : Below w.heap.size w w') (hB : B = w.heap.size) : HasL w' (· < B) A xs := by
 subst hB
 exact h.mod (T := fun _ => False) (Mod.of_below hb) (fun _ _ _ h => h)
theorem dY {α : Type} [Lay α] {w : World} {S : Nat → Prop} {g o : Nat} {xs : List α} (h : HasL w S (some ⟨g, o, none⟩) xs) (k : Nat) : HasL w S (some ⟨g, o + k * Lay.size α, none⟩) (xs.drop k) := fun j x hx => by
 rw [List.getElem?_drop] at hx
 obtain ⟨g', o', cs, e, h1, h2, h3, h4⟩ := h (k + j) x hx
 injection e with e
 injection e with e1 e2 _
 subst e1 e2
 refine ⟨g, o + k * Lay.size α, cs, rfl, h1, h2, h3, fun i u hi => ?_⟩
 have := h4 i u hi
 have e : o + (k + j) * Lay.size α + i = o + k * Lay.size α + j * Lay.size α + i := by rw [Nat.add_mul]; omega
 rw [e] at this
 exact this
theorem ca {α : Type} [Lay α] {w : World} {S : Nat → Prop} {A : Option Addr} {xs : List α} (h : HasL w S A xs) (k : Nat) : HasL w S A (xs.take k) := fun j x hx => h j x (by
 rw [List.getElem?_take] at hx
 split at hx
 ·exact hx
 ·cases hx)
theorem bE {α : Type} [Lay α] [Ones α] {t st : TypeId} {z : Value} {by' : Nat} (hu : Tryz.prog.underlying st = some (.slice t)) (hi0 : (Tryz.prog.info? t).map (fun i => (i.zero, i.size, i.bytes)) = some (some z, Lay.size α, by')) (hby : by' ≤ 4096) (hzs : z.cells.size = Lay.size α) (hpos : 0 < Lay.size α)
  {W : World} {N B n1 n2 c1 c2 : Nat} {v : Value} {pre suf : List α} {A1 A2 : Option Addr} (hM : az t N B W v ([] : List α)) (hN : N ≤ W.heap.size) (hBN : B ≤ N) (hp : HasL W (· < B) A1 pre) (hs : HasL W (· < B) A2 suf) (hn1 : n1 = pre.length) (hn2 : n2 = suf.length) (hsz : n1 + n2 ≤ 100000000) :
  ∃ A5 c5 w5 A6 c6 w6, (Builtin.append_ #[st, st] st #[v, .slice A1 n1 c1]).run Tryz.prog W = .ok (.slice A5 n1 c5) w5 ∧ (Builtin.append_ #[st, st] st #[.slice A5 n1 c5, .slice A2 n2 c2]).run Tryz.prog w5 = .ok (.slice A6 (n1 + n2) c6) w6 ∧
   az t N B w6 (.slice A6 (n1 + n2) c6) (pre ++ suf) ∧ Below N W w5 ∧ Below N W w6 := by
 obtain ⟨A5, c5, w5, hr5, hM5, hb5⟩ := hM.app hu hi0 hby hzs hpos hN hBN A1 n1 c1 pre hp hn1 (by simp; omega)
 simp only [List.length_nil, Nat.zero_add, List.nil_append] at hr5 hM5
 have hs5 : HasL w5 (· < B) A2 suf := hs.mod (T := (N ≤ ·)) ⟨hb5.os, hb5.tape, hb5.output, hb5.size, fun k _ ht => hb5.block k (Nat.lt_of_not_le ht)⟩ (fun k _ hk e => by have hk' : k < B := hk; have e' : N ≤ k := e; omega)
 obtain ⟨A6, c6, w6, hr6, hM6, hb6⟩ := hM5.app hu hi0 hby hzs hpos (Nat.le_trans hN hb5.size) hBN A2 n2 c2 suf hs5 hn2 (by omega)
 rw [← hn1] at hr6 hM6
 exact ⟨A5, c5, w5, A6, c6, w6, hr5, hr6, hM6, hb5, hb5.trans hb6⟩
end Go.Proofs.YtelcdmkbaegjoaaGreat
