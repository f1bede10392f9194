/-
  How a slice of sections that came in is opened: to sections, each one's bytes opened too; and how long they are at most.
-/
import Derived.Test.YthkglmkpnhhboaaGreatDoorR01
import Derived.Test.YthkglmkpnhhboaaGreatDoorR26
import Derived.Test.YthkglmkpnhhboaaGreatDoorR12
import Derived.Deep.Slices
import Derived.Deep.Fields
import Derived.ChangeSame
import Derived.SizedLaws
import Derived.Test.YthkglmkpnhhboaaGreatDoorR23
import Derived.Test.YthkglmkpnhhboaaGreatDoorR22
set_option maxRecDepth 100000
set_option maxHeartbeats 4000000
namespace Go.Proofs.YthkglmkpnhhboaaGreatDoor
open Go.RowKit Sec
open Go.ChangeShapes Go.WideShapes Go.ChangeAt Go.Deep
theorem o_bytes5 : Tryz.prog.bytesOf 5 = 1 := by kernel_rfl
section
variable {H : Type} {enc : TypeId × Value → H} {W : World}
theorem open_row {n : Nat} {v : Value} {y : DataW H × List MemPlace} (h : DataW.trod enc Tryz.prog W 0 (fun _ => true) true n 36 [v] = some y) (hs : ∀ k ∈ y.1.weights Tryz.prog 36, k ≤ reachBytes) :
  ∃ (A : Option Addr) (c : Nat) (l : List UInt8), v = .slice A l.length c ∧ l.length ≤ c ∧ c ≤ maxLen ∧ l.length ≤ 140737488355328 ∧ (A = none → c = 0) ∧ Has W W.heap.size A l := by
 rcases open_ints und22 und5 cellsU8 h with ⟨hcs, rfl⟩ | ⟨a, len, cap, zs, hcs, _, hl, hm, hz, rfl, hcell, hwz⟩
 ·obtain rfl : v = .slice none 0 0 := by simpa using hcs
  exact ⟨none, 0, [], rfl, Nat.le_refl _, by unfold maxLen; omega, by simp, fun _ => rfl, Has.nil _ _ _⟩
 ·obtain rfl : v = .slice (some a) len cap := by simpa using hcs
  simp only [if_true] at hz
  have hlen : ((zs.take len).map fun n => UInt8.ofNat n.toNat).length = len := by simp; omega
  have hw := hs ((len + (cap - len)) * 1) (by
   simp only [DataW.weights, und22, o_bytes5, List.mem_cons]
   left
   simp [lits]
   omega)
  have hrb := reachBytes_lt
  refine ⟨some a, cap, (zs.take len).map fun n => UInt8.ofNat n.toNat, by rw [hlen], by omega, hm, by omega, by simp, fun k x hx => ⟨a, rfl, ?_, ?_⟩⟩
  all_goals
   rw [List.getElem?_map, List.getElem?_take] at hx
   split at hx
   case isFalse => simp at hx
   case isTrue hk =>
    have hkz : k < zs.length := by omega
    rw [List.getElem?_eq_getElem hkz] at hx
    simp only [Option.map_some, Option.some.injEq] at hx
    have hc := hcell k hkz
    rw [List.getD_eq_getElem?_getD, List.getElem?_eq_getElem hkz, Option.getD_some] at hc
    first
    | (have hlt := fB hc
       have hb : (a.add k).block = a.block := by unfold Addr.add; split <;> rfl
       rw [hb] at hlt
       exact hlt)
    | (have hr := bounds_u8 (hwz zs[k] (List.getElem_mem hkz))
       rw [hc, ← hx, UInt8.toNat_ofNat']
       congr 2
       omega)
theorem open_bytesS {base : Nat} {v : Value} {d : DataW H} {p : List MemPlace} (hval : Value.okWide Tryz.prog W .any base 36 v) (h : DataW.Trod enc Tryz.prog W 0 (fun _ => true) true 36 v d p) (hs : ∀ k ∈ d.weights Tryz.prog 36, k ≤ reachBytes) :
  ∃ (A : Option Addr) (n c : Nat) (l : List UInt8), v = .slice A n c ∧ n = l.length ∧ n ≤ c ∧ c ≤ maxLen ∧ n ≤ 140737488355328 ∧ (A = none → c = 0) ∧ Has W W.heap.size A l := by
 obtain ⟨a1, len, cap, rfl⟩ := okWide_slice und22 hval
 obtain ⟨fuel, hf⟩ := h
 have hf' : DataW.trod enc Tryz.prog W 0 (fun _ => true) true fuel 36 [.slice a1 len cap] = some (d, p) := by simpa [Value.cells] using hf
 obtain ⟨A, c, l, he, h1, h2, h3, h4, h5⟩ := open_row hf' hs
 exact ⟨A, l.length, c, l, he, rfl, h1, h2, h3, h4, h5⟩
end
end Go.Proofs.YthkglmkpnhhboaaGreatDoor
namespace Go.Proofs.YthkglmkpnhhboaaGreatDoor
open Go.RowKit Ins Bin
open Go.ChangeShapes Go.WideShapes Go.ChangeAt Go.Deep
noncomputable def spots (T : TypeId) : List (TypeId × Nat × Nat) := match Tryz.prog.underlying T with
 | some (.struct fs) => fs.toList.map fun f => (f.type, f.offset, Tryz.prog.cellsOf f.type)
 | _ => []
section
variable {H : Type} {enc : TypeId × Value → H} {W : World}
def Rdg (W : World) (enc : TypeId × Value → H) (n : Nat) (T : TypeId) (cs : List Value) (d : DataW H) : Prop :=
 (∃ p, DataW.trod enc Tryz.prog W 0 (fun _ => true) true n T cs = some (d, p)) ∧ ∀ k ∈ d.weights Tryz.prog T, k ≤ reachBytes
theorem di {P : Program} : ∀ {ts : List TypeId} {ds : List (DataW H)} {j : Nat} {t : TypeId} {d : DataW H}, ts[j]? = some t → ds[j]? = some d → ∀ k ∈ d.weights P t, k ∈ DataW.weightsEach P ts ds
 | [], _, _, _, _, h, _, _, _ => by simp at h
 | _ :: _, [], _, _, _, _, h, _, _ => by simp at h
 | u :: ts, e :: ds, 0, t, d, h1, h2, k, hk => by
  simp at h1 h2
  subst h1 h2
  simp only [DataW.weightsEach, List.mem_append]
  exact .inl hk
 | u :: ts, e :: ds, j + 1, t, d, h1, h2, k, hk => by
  simp only [DataW.weightsEach, List.mem_append]
  exact .inr (di (ts := ts) (ds := ds) (by simpa using h1) (by simpa using h2) k hk)
theorem aJ {T : TypeId} {L : List (TypeId × Nat × Nat)} (hL : spots T = L) (h0 : L ≠ []) {n : Nat} {cs : List Value} {d : DataW H} (h : Rdg W enc n T cs d) :
  cs.length = Tryz.prog.cellsOf T ∧ ∀ (j : Nat) (t : TypeId) (o c : Nat), L[j]? = some (t, o, c) → ∃ n' d', Rdg W enc n' t ((cs.drop o).take c) d' := by
 obtain ⟨⟨p, hp⟩, hw⟩ := h
 unfold spots at hL
 split at hL
 ·next fs hu =>
  obtain ⟨ys, n', _, hx, hcl, hyl, hf⟩ := DataW.trod_struct hu hp
  injection hx with hx _
  refine ⟨hcl, fun j t o c hj => ?_⟩
  subst hL
  rw [List.getElem?_map, Option.map_eq_some_iff] at hj
  obtain ⟨f, hfj, he⟩ := hj
  injection he with e1 he
  injection he with e2 e3
  subst e1 e2 e3
  have hfj' : fs[j]? = some f := by rw [← Array.getElem?_toList]; exact hfj
  have hlt : j < ys.length := by
   rw [hyl]
   exact (Array.getElem?_eq_some_iff.1 hfj').1
  have hy := hf j f hfj'
  refine ⟨n', (ys[j]).1, ⟨(ys[j]).2, ?_⟩, fun k hk => hw k ?_⟩
  ·rw [hy, List.getElem?_eq_getElem hlt]
  ·rw [hx]
   simp only [DataW.weights, hu]
   exact di (j := j) (t := f.type) (d := (ys[j]).1) (by rw [List.getElem?_map, hfj]; rfl) (by rw [List.getElem?_map, List.getElem?_eq_getElem hlt]; rfl) k hk
 ·exact absurd hL.symm h0
end
class Opn (α : Type) [Lay α] where
 T : TypeId
 big : α → Prop
 open_ : ∀ {H : Type} {enc : TypeId × Value → H} {W : World} {n : Nat} {cs : List Value} {d : DataW H}, Rdg W enc n T cs d → ∃ x : α, Lay.rep W (· < W.heap.size) x cs ∧ big x
 cells : Tryz.prog.cellsOf T = Lay.size α
 pos : 0 < Lay.size α
 bytes : 1 ≤ Tryz.prog.bytesOf T
theorem aL {α : Type} [Lay α] [Opn α] {ST : TypeId} (hu : Tryz.prog.underlying ST = some (.slice (Opn.T α))) {H : Type} {enc : TypeId × Value → H} {W : World} {n : Nat} {v : Value} {d : DataW H} (h : Rdg W enc n ST [v] d) :
  ∃ xs : List α, J W (· < W.heap.size) xs v ∧ xs.length ≤ 140737488355328 ∧ ∀ x ∈ xs, Opn.big x := by
 obtain ⟨⟨p, hp⟩, hs⟩ := h
 have hrb := reachBytes_lt
 rcases open_slice hu hp with ⟨hcs, hx⟩ | ⟨a, len, cap, m, n', D, Pl, hcs, _, hl, hm, hmm, hx, hi⟩
 ·obtain rfl : v = .slice none 0 0 := by simpa using hcs
  exact ⟨[], J.nil _ _, by simp, by simp⟩
 ·obtain rfl : v = .slice (some a) len cap := by simpa using hcs
  simp only [if_true] at hmm
  injection hx with hx _
  subst hx
  have hw := hs ((len + (m - len)) * Tryz.prog.bytesOf (Opn.T α)) (by
   simp only [DataW.weights, hu, List.mem_cons]
   left
   simp)
  have hlen : len ≤ 140737488355328 := by
   have h1 : len * 1 ≤ (len + (m - len)) * Tryz.prog.bytesOf (Opn.T α) := Nat.mul_le_mul (by omega) Opn.bytes
   omega
  have hE : ∀ i, i < len → ∃ x : α, Opn.big x ∧ ∃ cs : List Value, Lay.rep W (· < W.heap.size) x cs ∧ ∀ (j : Nat) (u : Value), cs[j]? = some u → W.cell? ((a.add (i * Lay.size α)).add j) = some u := by
   intro i hil
   obtain ⟨cs', hc, ht⟩ := hi i (by omega)
   rw [Opn.cells] at hc
   obtain ⟨_, hcl, hat⟩ := World.cells?_some hc
   obtain ⟨x, h1, h2⟩ := Opn.open_ (α := α) (enc := enc) (W := W) (n := n') (cs := cs') (d := D i) ⟨⟨_, ht⟩, fun k hk => hs k (by
    simp only [DataW.weights, hu, List.mem_cons, List.mem_append]
    right; left
    exact bN (List.mem_map.2 ⟨i, List.mem_range.2 hil, rfl⟩) hk)⟩
   refine ⟨x, h2, cs', h1, fun j u hj => ?_⟩
   have hj5 : j < Lay.size α := by
    have := (List.getElem?_eq_some_iff.1 hj).1
    omega
   rw [hat j hj5]
   exact hj
  obtain ⟨xs, hxl, hxs⟩ := cC len hE
  refine ⟨xs, ⟨some a, cap, by rw [hxl], by omega, hm, (fun e => by cases e), fun k x hk => ?_⟩, by omega, fun x hx => ?_⟩
  ·obtain ⟨_, cs, h1, h2⟩ := hxs k x hk
   have hpos : 0 < len := by
    have := (List.getElem?_eq_some_iff.1 hk).1
    omega
   obtain ⟨x0, _, cs0, h10, h20⟩ := hE 0 hpos
   have hcl := Lay.len h10
   obtain ⟨u0, hu0⟩ : ∃ u, cs0[0]? = some u := ⟨_, List.getElem?_eq_getElem (by have := Opn.pos (α := α); omega)⟩
   have hc0 := h20 0 u0 hu0
   have hsp := eN hc0
   obtain ⟨g, o, sp⟩ := a
   obtain rfl : sp = none := by simpa [Addr.add] using hsp
   have hb : g < W.heap.size := by
    have := fB hc0
    rwa [ey, ey] at this
   refine ⟨g, o, cs, rfl, hb, hb, h1, fun j u hj => ?_⟩
   have := h2 j u hj
   rwa [ey, ey] at this
  ·obtain ⟨k, hk⟩ := List.mem_iff_getElem?.1 hx
   exact (hxs k x hk).1
section
variable {H : Type} {enc : TypeId × Value → H} {W : World}
theorem o_undstr : Tryz.prog.underlying 9 = some .string := by kernel_rfl
theorem gc {n : Nat} {v : Value} {d : DataW H} (h : Rdg W enc n 5 [v] d) : ∃ x : UInt8, v = .int .u8 (x.toNat : Int) := by
 obtain ⟨⟨p, hp⟩, _⟩ := h
 obtain ⟨m, e, _, w⟩ := DataW.trod_int und5 hp
 have b := bounds_u8 w
 refine ⟨UInt8.ofNat m.toNat, ?_⟩
 have e' : v = .int .u8 m := by simpa using e
 rw [e', UInt8.toNat_ofNat']
 congr 1
 omega
theorem cF {n : Nat} {v : Value} {d : DataW H} (h : Rdg W enc n 28 [v] d) : ∃ x : Nat, v = .int .u32 (x : Int) ∧ x < 4294967296 := by
 obtain ⟨⟨p, hp⟩, _⟩ := h
 obtain ⟨m, e, _, w⟩ := DataW.trod_int dp hp
 have b := bounds_u32 w
 refine ⟨m.toNat, ?_, by omega⟩
 have e' : v = .int .u32 m := by simpa using e
 rw [e']
 congr 1
 omega
theorem rdg_i64 {n : Nat} {v : Value} {d : DataW H} (h : Rdg W enc n 2 [v] d) : ∃ x : Int, v = .int .i64 x ∧ -9223372036854775808 ≤ x ∧ x ≤ 9223372036854775807 := by
 obtain ⟨⟨p, hp⟩, _⟩ := h
 obtain ⟨m, e, _, w⟩ := DataW.trod_int o_und2i hp
 have b := bounds_i64 w
 exact ⟨m, by simpa using e, b.1, b.2⟩
theorem rdg_bool {n : Nat} {v : Value} {d : DataW H} (h : Rdg W enc n 4 [v] d) : ∃ x : Bool, v = .bool x := by
 obtain ⟨⟨p, hp⟩, _⟩ := h
 obtain ⟨m, e, _⟩ := DataW.trod_bool und4 hp
 exact ⟨m, by simpa using e⟩
theorem iO {n : Nat} {v : Value} {d : DataW H} (h : Rdg W enc n 9 [v] d) : ∃ l : List UInt8, v = strV l ∧ l.length ≤ 140737488355328 := by
 obtain ⟨⟨p, hp⟩, hw⟩ := h
 obtain ⟨s, e, hx, _⟩ := DataW.trod_string o_undstr hp
 injection hx with hx _
 subst hx
 have := hw s.data.toList.length (by simp [DataW.weights])
 have hrb := reachBytes_lt
 refine ⟨s.data.toList, ?_, by omega⟩
 have e' : v = .string s := by simpa using e
 rw [e']
 unfold strV
 simp
theorem rdg_glob {n : Nat} {c0 c1 : Value} {d : DataW H} (h : Rdg W enc n 59 [c0, c1] d) : ∃ g : Glob, c0 = .int .u8 (g.t.toNat : Int) ∧ c1 = .bool g.mu := by
 obtain ⟨_, hf⟩ := aJ (L := [(5, 0, 1), (4, 1, 1)]) (by kernel_rfl) (by simp) h
 obtain ⟨_, _, h0⟩ := hf 0 _ _ _ rfl
 obtain ⟨_, _, h1⟩ := hf 1 _ _ _ rfl
 obtain ⟨x, e0⟩ := gc (v := c0) h0
 obtain ⟨b, e1⟩ := rdg_bool (v := c1) h1
 exact ⟨⟨x, b⟩, e0, e1⟩
theorem rdg_lim {n : Nat} {c0 c1 : Value} {d : DataW H} (h : Rdg W enc n 57 [c0, c1] d) : ∃ x : Lim, c0 = .int .u32 (x.min : Int) ∧ c1 = .int .i64 x.max ∧ Lim.wf x := by
 obtain ⟨_, hf⟩ := aJ (L := [(28, 0, 1), (2, 1, 1)]) (by kernel_rfl) (by simp) h
 obtain ⟨_, _, h0⟩ := hf 0 _ _ _ rfl
 obtain ⟨_, _, h1⟩ := hf 1 _ _ _ rfl
 obtain ⟨x, e0, g0⟩ := cF (v := c0) h0
 obtain ⟨y, e1, g1, g2⟩ := rdg_i64 (v := c1) h1
 exact ⟨⟨x, y⟩, e0, e1, g0, g1, g2⟩
end
theorem iN {α : Type} {l : List α} (h : l.length = 2) : ∃ a b, l = [a, b] := by
 match l, h with
 | [a, b], _ => exact ⟨a, b, rfl⟩
theorem ex {α : Type} {l : List α} (h : l.length = 3) : ∃ a b c, l = [a, b, c] := by
 match l, h with
 | [a, b, c], _ => exact ⟨a, b, c, rfl⟩
instance : Opn UInt8 where
 T := 5
 big _ := True
 open_ {_ _ _ _ cs _} h := by
  have h0 := h
  obtain ⟨⟨p, hp⟩, _⟩ := h
  obtain ⟨m, e, _, w⟩ := DataW.trod_int und5 hp
  subst e
  obtain ⟨x, e⟩ := gc h0
  exact ⟨x, by rw [e]; rfl, trivial⟩
 cells := by kernel_rfl
 pos := by decide
 bytes := by rw [show Tryz.prog.bytesOf 5 = 1 by kernel_rfl]; omega
instance : Opn Nat where
 T := 28
 big _ := True
 open_ {_ _ _ _ cs _} h := by
  have h0 := h
  obtain ⟨⟨p, hp⟩, _⟩ := h
  obtain ⟨m, e, _, w⟩ := DataW.trod_int dp hp
  subst e
  obtain ⟨x, e, hx⟩ := cF h0
  exact ⟨x, ⟨by rw [e], hx⟩, trivial⟩
 cells := by kernel_rfl
 pos := by decide
 bytes := by rw [show Tryz.prog.bytesOf 28 = 4 by kernel_rfl]; omega
def most : Nat := 140737488355328
instance : Opn I where
 T := 95
 big x := x.l.length ≤ most
 open_ h := by
  obtain ⟨⟨p, hp⟩, hw⟩ := h
  obtain ⟨A, c, x, e, h1, h2, h3, h4, h5, _⟩ := open_cells hp hw
  exact ⟨x, ⟨A, c, e, h1, h2, h3, h5⟩, h4⟩
 cells := by kernel_rfl
 pos := by decide
 bytes := by rw [show Tryz.prog.bytesOf 95 = 48 by kernel_rfl]; omega
instance : Opn Lim where
 T := 57
 big _ := True
 open_ {_ _ _ _ cs _} h := by
  have hl := (aJ (L := [(28, 0, 1), (2, 1, 1)]) (by kernel_rfl) (by simp) h).1
  obtain ⟨a, b, rfl⟩ := iN (hl.trans (by kernel_rfl))
  obtain ⟨x, rfl, rfl, hx⟩ := rdg_lim h
  exact ⟨x, ⟨rfl, hx⟩, trivial⟩
 cells := by kernel_rfl
 pos := by decide
 bytes := by rw [show Tryz.prog.bytesOf 57 = 16 by kernel_rfl]; omega
theorem ja : Tryz.prog.underlying 36 = some (.slice (Opn.T UInt8)) := by kernel_rfl
theorem ej : Tryz.prog.underlying 52 = some (.slice (Opn.T I)) := by kernel_rfl
theorem o_undNs : Tryz.prog.underlying 24 = some (.slice (Opn.T Nat)) := by kernel_rfl
instance : Opn FT where
 T := 50
 big x := x.params.length ≤ most ∧ x.results.length ≤ most
 open_ {_ _ _ _ cs _} h := by
  obtain ⟨hl, hf⟩ := aJ (L := [(36, 0, 1), (36, 1, 1)]) (by kernel_rfl) (by simp) h
  obtain ⟨a, b, rfl⟩ := iN (hl.trans (by kernel_rfl))
  obtain ⟨_, _, h0⟩ := hf 0 _ _ _ rfl
  obtain ⟨_, _, h1⟩ := hf 1 _ _ _ rfl
  obtain ⟨xs, s0, l0, _⟩ := aL (v := a) ja h0
  obtain ⟨ys, s1, l1, _⟩ := aL (v := b) ja h1
  exact ⟨⟨xs, ys⟩, ⟨a, b, rfl, s0, s1⟩, l0, l1⟩
 cells := by kernel_rfl
 pos := by decide
 bytes := by rw [show Tryz.prog.bytesOf 50 = 48 by kernel_rfl]; omega
instance : Opn Imp where
 T := 61
 big x := x.mod.length ≤ most ∧ x.name.length ≤ most
 open_ {_ _ _ _ cs _} h := by
  obtain ⟨hl, hf⟩ := aJ (L := [(9, 0, 1), (9, 1, 1), (5, 2, 1), (28, 3, 1), (57, 4, 2), (59, 6, 2)]) (by kernel_rfl) (by simp) h
  have hl8 : cs.length = 8 := hl.trans (by kernel_rfl)
  match cs, hl8 with
  | [c0, c1, c2, c3, c4, c5, c6, c7], _ =>
   obtain ⟨_, _, h0⟩ := hf 0 _ _ _ rfl
   obtain ⟨_, _, h1⟩ := hf 1 _ _ _ rfl
   obtain ⟨_, _, h2⟩ := hf 2 _ _ _ rfl
   obtain ⟨_, _, h3⟩ := hf 3 _ _ _ rfl
   obtain ⟨_, _, h4⟩ := hf 4 _ _ _ rfl
   obtain ⟨_, _, h5⟩ := hf 5 _ _ _ rfl
   obtain ⟨a, rfl, la⟩ := iO (v := c0) h0
   obtain ⟨b, rfl, lb⟩ := iO (v := c1) h1
   obtain ⟨k, rfl⟩ := gc (v := c2) h2
   obtain ⟨t, rfl, ht⟩ := cF (v := c3) h3
   obtain ⟨li, rfl, rfl, hli⟩ := rdg_lim (c0 := c4) (c1 := c5) h4
   obtain ⟨g, rfl, rfl⟩ := rdg_glob (c0 := c6) (c1 := c7) h5
   exact ⟨⟨a, b, k, t, li, g⟩, ⟨rfl, ht, hli⟩, la, lb⟩
 cells := by kernel_rfl
 pos := by decide
 bytes := by rw [show Tryz.prog.bytesOf 61 = 64 by kernel_rfl]; omega
def bigE (xs : List I) : Prop := xs.length ≤ most ∧ ∀ x ∈ xs, x.l.length ≤ most
instance : Opn GV where
 T := 63
 big x := bigE x.init
 open_ {_ _ _ _ cs _} h := by
  obtain ⟨hl, hf⟩ := aJ (L := [(59, 0, 2), (52, 2, 1)]) (by kernel_rfl) (by simp) h
  obtain ⟨a, b, c, rfl⟩ := ex (hl.trans (by kernel_rfl))
  obtain ⟨_, _, h0⟩ := hf 0 _ _ _ rfl
  obtain ⟨_, _, h1⟩ := hf 1 _ _ _ rfl
  obtain ⟨g, rfl, rfl⟩ := rdg_glob (c0 := a) (c1 := b) h0
  obtain ⟨xs, s1, l1, l2⟩ := aL (v := c) ej h1
  exact ⟨⟨g, xs⟩, ⟨c, rfl, s1⟩, l1, l2⟩
 cells := by kernel_rfl
 pos := by decide
 bytes := by rw [show Tryz.prog.bytesOf 63 = 32 by kernel_rfl]; omega
instance : Opn Exp where
 T := 66
 big x := x.name.length ≤ most
 open_ {_ _ _ _ cs _} h := by
  obtain ⟨hl, hf⟩ := aJ (L := [(9, 0, 1), (5, 1, 1), (28, 2, 1)]) (by kernel_rfl) (by simp) h
  obtain ⟨a, b, c, rfl⟩ := ex (hl.trans (by kernel_rfl))
  obtain ⟨_, _, h0⟩ := hf 0 _ _ _ rfl
  obtain ⟨_, _, h1⟩ := hf 1 _ _ _ rfl
  obtain ⟨_, _, h2⟩ := hf 2 _ _ _ rfl
  obtain ⟨s, rfl, ls⟩ := iO (v := a) h0
  obtain ⟨k, rfl⟩ := gc (v := b) h1
  obtain ⟨t, rfl, ht⟩ := cF (v := c) h2
  exact ⟨⟨s, k, t⟩, ⟨rfl, ht⟩, ls⟩
 cells := by kernel_rfl
 pos := by decide
 bytes := by rw [show Tryz.prog.bytesOf 66 = 24 by kernel_rfl]; omega
instance : Opn El where
 T := 69
 big x := bigE x.off ∧ x.funcs.length ≤ most
 open_ {_ _ _ _ cs _} h := by
  obtain ⟨hl, hf⟩ := aJ (L := [(28, 0, 1), (52, 1, 1), (24, 2, 1)]) (by kernel_rfl) (by simp) h
  obtain ⟨a, b, c, rfl⟩ := ex (hl.trans (by kernel_rfl))
  obtain ⟨_, _, h0⟩ := hf 0 _ _ _ rfl
  obtain ⟨_, _, h1⟩ := hf 1 _ _ _ rfl
  obtain ⟨_, _, h2⟩ := hf 2 _ _ _ rfl
  obtain ⟨t, rfl, ht⟩ := cF (v := a) h0
  obtain ⟨xs, s1, l1, l2⟩ := aL (v := b) ej h1
  obtain ⟨ys, s2, l3, _⟩ := aL (v := c) o_undNs h2
  exact ⟨⟨t, xs, ys⟩, ⟨b, c, rfl, ht, s1, s2⟩, ⟨l1, l2⟩, l3⟩
 cells := by kernel_rfl
 pos := by decide
 bytes := by rw [show Tryz.prog.bytesOf 69 = 56 by kernel_rfl]; omega
instance : Opn Lc where
 T := 121
 big _ := True
 open_ {_ _ _ _ cs _} h := by
  obtain ⟨hl, hf⟩ := aJ (L := [(28, 0, 1), (5, 1, 1)]) (by kernel_rfl) (by simp) h
  obtain ⟨a, b, rfl⟩ := iN (hl.trans (by kernel_rfl))
  obtain ⟨_, _, h0⟩ := hf 0 _ _ _ rfl
  obtain ⟨_, _, h1⟩ := hf 1 _ _ _ rfl
  obtain ⟨t, rfl, ht⟩ := cF (v := a) h0
  obtain ⟨k, rfl⟩ := gc (v := b) h1
  exact ⟨⟨t, k⟩, ⟨rfl, ht⟩, trivial⟩
 cells := by kernel_rfl
 pos := by decide
 bytes := by rw [show Tryz.prog.bytesOf 121 = 8 by kernel_rfl]; omega
theorem o_undLs : Tryz.prog.underlying 51 = some (.slice (Opn.T Lc)) := by kernel_rfl
instance : Opn Cd where
 T := 54
 big x := x.locals.length ≤ most ∧ bigE x.body
 open_ {_ _ _ _ cs _} h := by
  obtain ⟨hl, hf⟩ := aJ (L := [(51, 0, 1), (52, 1, 1)]) (by kernel_rfl) (by simp) h
  obtain ⟨a, b, rfl⟩ := iN (hl.trans (by kernel_rfl))
  obtain ⟨_, _, h0⟩ := hf 0 _ _ _ rfl
  obtain ⟨_, _, h1⟩ := hf 1 _ _ _ rfl
  obtain ⟨xs, s0, l0, _⟩ := aL (v := a) o_undLs h0
  obtain ⟨ys, s1, l1, l2⟩ := aL (v := b) ej h1
  exact ⟨⟨xs, ys⟩, ⟨a, b, rfl, s0, s1⟩, l0, l1, l2⟩
 cells := by kernel_rfl
 pos := by decide
 bytes := by rw [show Tryz.prog.bytesOf 54 = 48 by kernel_rfl]; omega
instance : Opn Da where
 T := 71
 big x := bigE x.off ∧ x.b.length ≤ most
 open_ {_ _ _ _ cs _} h := by
  obtain ⟨hl, hf⟩ := aJ (L := [(28, 0, 1), (52, 1, 1), (36, 2, 1)]) (by kernel_rfl) (by simp) h
  obtain ⟨a, b, c, rfl⟩ := ex (hl.trans (by kernel_rfl))
  obtain ⟨_, _, h0⟩ := hf 0 _ _ _ rfl
  obtain ⟨_, _, h1⟩ := hf 1 _ _ _ rfl
  obtain ⟨_, _, h2⟩ := hf 2 _ _ _ rfl
  obtain ⟨t, rfl, ht⟩ := cF (v := a) h0
  obtain ⟨xs, s1, l1, l2⟩ := aL (v := b) ej h1
  obtain ⟨ys, s2, l3, _⟩ := aL (v := c) ja h2
  exact ⟨⟨t, xs, ys⟩, ⟨b, c, rfl, ht, s1, s2⟩, ⟨l1, l2⟩, l3⟩
 cells := by kernel_rfl
 pos := by decide
 bytes := by rw [show Tryz.prog.bytesOf 71 = 56 by kernel_rfl]; omega
structure BigM (m : M) : Prop where
 types : m.types.length ≤ most ∧ ∀ x ∈ m.types, Opn.big x
 imports : m.imports.length ≤ most ∧ ∀ x ∈ m.imports, Opn.big x
 funcs : m.funcs.length ≤ most
 tables : m.tables.length ≤ most
 mems : m.mems.length ≤ most
 globals : m.globals.length ≤ most ∧ ∀ x ∈ m.globals, Opn.big x
 exports : m.exports.length ≤ most ∧ ∀ x ∈ m.exports, Opn.big x
 elems : m.elems.length ≤ most ∧ ∀ x ∈ m.elems, Opn.big x
 codes : m.codes.length ≤ most ∧ ∀ x ∈ m.codes, Opn.big x
 datas : m.datas.length ≤ most ∧ ∀ x ∈ m.datas, Opn.big x
theorem o_s1 : Tryz.prog.underlying 22 = some (.slice (Opn.T FT)) := by kernel_rfl
theorem o_s2 : Tryz.prog.underlying 23 = some (.slice (Opn.T Imp)) := by kernel_rfl
theorem o_s4 : Tryz.prog.underlying 25 = some (.slice (Opn.T Lim)) := by kernel_rfl
theorem o_s6 : Tryz.prog.underlying 26 = some (.slice (Opn.T GV)) := by kernel_rfl
theorem o_s7 : Tryz.prog.underlying 27 = some (.slice (Opn.T Exp)) := by kernel_rfl
theorem o_s9 : Tryz.prog.underlying 29 = some (.slice (Opn.T El)) := by kernel_rfl
theorem o_s10 : Tryz.prog.underlying 30 = some (.slice (Opn.T Cd)) := by kernel_rfl
theorem o_s11 : Tryz.prog.underlying 31 = some (.slice (Opn.T Da)) := by kernel_rfl
theorem open_module {H : Type} {enc : TypeId × Value → H} {W : World} {n : Nat} {cs : List Value} {d : DataW H} (h : Rdg W enc n 33 cs d) :
  ∃ (m : M) (v1 v2 v3 v4 v5 v6 v7 v8 v9 v10 : Value), cs = (modCells m v1 v2 v3 v4 v5 v6 v7 v8 v9 v10).toList ∧ RepM W (· < W.heap.size) m v1 v2 v3 v4 v5 v6 v7 v8 v9 v10 ∧ BigM m := by
 obtain ⟨hl, hf⟩ := aJ (L := [(22, 0, 1), (23, 1, 1), (24, 2, 1), (25, 3, 1), (25, 4, 1), (26, 5, 1), (27, 6, 1), (4, 7, 1), (28, 8, 1), (29, 9, 1), (30, 10, 1), (31, 11, 1)]) (by kernel_rfl) (by simp) h
 have hl12 : cs.length = 12 := hl.trans (by kernel_rfl)
 match cs, hl12 with
 | [c0, c1, c2, c3, c4, c5, c6, c7, c8, c9, c10, c11], _ =>
  obtain ⟨_, _, h0⟩ := hf 0 _ _ _ rfl
  obtain ⟨_, _, h1⟩ := hf 1 _ _ _ rfl
  obtain ⟨_, _, h2⟩ := hf 2 _ _ _ rfl
  obtain ⟨_, _, h3⟩ := hf 3 _ _ _ rfl
  obtain ⟨_, _, h4⟩ := hf 4 _ _ _ rfl
  obtain ⟨_, _, h5⟩ := hf 5 _ _ _ rfl
  obtain ⟨_, _, h6⟩ := hf 6 _ _ _ rfl
  obtain ⟨_, _, h7⟩ := hf 7 _ _ _ rfl
  obtain ⟨_, _, h8⟩ := hf 8 _ _ _ rfl
  obtain ⟨_, _, h9⟩ := hf 9 _ _ _ rfl
  obtain ⟨_, _, h10⟩ := hf 10 _ _ _ rfl
  obtain ⟨_, _, h11⟩ := hf 11 _ _ _ rfl
  obtain ⟨a0, s0, l0, b0⟩ := aL (v := c0) o_s1 h0
  obtain ⟨a1, s1, l1, b1⟩ := aL (v := c1) o_s2 h1
  obtain ⟨a2, s2, l2, _⟩ := aL (v := c2) o_undNs h2
  obtain ⟨a3, s3, l3, _⟩ := aL (v := c3) o_s4 h3
  obtain ⟨a4, s4, l4, _⟩ := aL (v := c4) o_s4 h4
  obtain ⟨a5, s5, l5, b5⟩ := aL (v := c5) o_s6 h5
  obtain ⟨a6, s6, l6, b6⟩ := aL (v := c6) o_s7 h6
  obtain ⟨st, rfl⟩ := rdg_bool (v := c7) h7
  obtain ⟨sn, rfl, hsn⟩ := cF (v := c8) h8
  obtain ⟨a9, s9, l9, b9⟩ := aL (v := c9) o_s9 h9
  obtain ⟨a10, s10, l10, b10⟩ := aL (v := c10) o_s10 h10
  obtain ⟨a11, s11, l11, b11⟩ := aL (v := c11) o_s11 h11
  exact ⟨⟨a0, a1, a2, a3, a4, a5, a6, st, sn, a9, a10, a11⟩, c0, c1, c2, c3, c4, c5, c6, c9, c10, c11, rfl, ⟨s0, s1, s2, s3, s4, s5, s6, hsn, s9, s10, s11⟩, ⟨⟨l0, b0⟩, ⟨l1, b1⟩, l2, l3, l4, ⟨l5, b5⟩, ⟨l6, b6⟩, ⟨l9, b9⟩, ⟨l10, b10⟩, ⟨l11, b11⟩⟩⟩
def isStructD : Option TypeDesc → Bool
 | some (.struct _) => true
 | _ => false
theorem o_undM' : isStructD (Tryz.prog.underlying 33) = true := by kernel_rfl
theorem o_undM : ∃ fs, Tryz.prog.underlying 33 = some (.struct fs) := by
 have h := o_undM'
 generalize Tryz.prog.underlying 33 = x at h
 unfold isStructD at h
 split at h
 ·exact ⟨_, rfl⟩
 ·cases h
section
variable {H : Type} {enc : TypeId × Value → H} {W : World}
theorem open_mod {base : Nat} {v : Value} {d : DataW H} {p : List MemPlace} (hval : Value.okWide Tryz.prog W .any base 33 v) (h : DataW.Trod enc Tryz.prog W 0 (fun _ => true) true 33 v d p) (hs : ∀ k ∈ d.weights Tryz.prog 33, k ≤ reachBytes) :
  ∃ (m : M) (v1 v2 v3 v4 v5 v6 v7 v8 v9 v10 : Value), v = .agg (modCells m v1 v2 v3 v4 v5 v6 v7 v8 v9 v10) ∧ RepM W (· < W.heap.size) m v1 v2 v3 v4 v5 v6 v7 v8 v9 v10 ∧ BigM m := by
 obtain ⟨fs, hu⟩ := o_undM
 obtain ⟨cs, rfl, _⟩ := okWide_struct hu hval
 obtain ⟨fuel, hf⟩ := h
 obtain ⟨m, v1, v2, v3, v4, v5, v6, v7, v8, v9, v10, hcs, h1, h2⟩ := open_module ⟨⟨p, hf⟩, hs⟩
 refine ⟨m, v1, v2, v3, v4, v5, v6, v7, v8, v9, v10, ?_, h1, h2⟩
 have hc : cs.toList = (modCells m v1 v2 v3 v4 v5 v6 v7 v8 v9 v10).toList := by rw [← hcs]; simp [Value.cells]
 rw [Array.toList_inj.1 hc]
end
end Go.Proofs.YthkglmkpnhhboaaGreatDoor
