/-
  How a module that came in is opened: record by record, to the module that its cells read as; and how long its lists are at most.
-/
import Derived.Test.YthkglmkpnhhboaaBinLay
import Derived.Test.YthkglmkpnhhboaaInsOpen
import Derived.Test.YthkglmkpnhhboaaSecOpen
namespace Go.Proofs.Ythkglmkpnhhboaa
open Go.RowKit Ins Bin
open Go.ChangeShapes Go.WideShapes Go.ChangeAt Go.Deep
set_option maxRecDepth 100000
/-- Where a struct's fields stand: type, first cell, how many cells. -/
noncomputable def spots (T : TypeId) : List (TypeId × Nat × Nat) := match Try.prog.underlying T with
  | some (.struct fs) => fs.toList.map fun f => (f.type, f.offset, Try.prog.cellsOf f.type)
  | _ => []
section
variable {H : Type} {enc : TypeId × Value → H} {W : World}
/-- A reading of cells as a type, within reach. -/
def Rdg (W : World) (enc : TypeId × Value → H) (n : Nat) (T : TypeId) (cs : List Value) (d : DataW H) : Prop :=
  (∃ p, DataW.trod enc Try.prog W 0 (fun _ => true) true n T cs = some (d, p)) ∧ ∀ k ∈ d.weights Try.prog T, k ≤ reachBytes
theorem weightsEach_at {P : Program} : ∀ {ts : List TypeId} {ds : List (DataW H)} {j : Nat} {t : TypeId} {d : DataW H}, ts[j]? = some t → ds[j]? = some d → ∀ k ∈ d.weights P t, k ∈ DataW.weightsEach P ts ds
  | [], _, _, _, _, h, _, _, _ => by simp at h
  | _ :: _, [], _, _, _, _, h, _, _ => by simp at h
  | u :: ts, e :: ds, 0, t, d, h1, h2, k, hk => by
    simp at h1 h2
    subst h1 h2
    simp only [DataW.weightsEach, List.mem_append]
    exact .inl hk
  | u :: ts, e :: ds, j + 1, t, d, h1, h2, k, hk => by
    simp only [DataW.weightsEach, List.mem_append]
    exact .inr (weightsEach_at (ts := ts) (ds := ds) (by simpa using h1) (by simpa using h2) k hk)
/-- A struct's fields, each read by itself. -/
theorem rdg_struct {T : TypeId} {L : List (TypeId × Nat × Nat)} (hL : spots T = L) (h0 : L ≠ []) {n : Nat} {cs : List Value} {d : DataW H} (h : Rdg W enc n T cs d) :
    cs.length = Try.prog.cellsOf T ∧ ∀ (j : Nat) (t : TypeId) (o c : Nat), L[j]? = some (t, o, c) → ∃ n' d', Rdg W enc n' t ((cs.drop o).take c) d' := by
  obtain ⟨⟨p, hp⟩, hw⟩ := h
  unfold spots at hL
  split at hL
  · next fs hu =>
    obtain ⟨ys, n', _, hx, hcl, hyl, hf⟩ := DataW.trod_struct hu hp
    injection hx with hx _
    refine ⟨hcl, fun j t o c hj => ?_⟩
    subst hL
    rw [List.getElem?_map, Option.map_eq_some_iff] at hj
    obtain ⟨f, hfj, he⟩ := hj
    injection he with e1 he
    injection he with e2 e3
    subst e1 e2 e3
    have hfj' : fs[j]? = some f := by rw [← Array.getElem?_toList]; exact hfj
    have hlt : j < ys.length := by
      rw [hyl]
      exact (Array.getElem?_eq_some_iff.1 hfj').1
    have hy := hf j f hfj'
    refine ⟨n', (ys[j]).1, ⟨(ys[j]).2, ?_⟩, fun k hk => hw k ?_⟩
    · rw [hy, List.getElem?_eq_getElem hlt]
    · rw [hx]
      simp only [DataW.weights, hu]
      exact weightsEach_at (j := j) (t := f.type) (d := (ys[j]).1) (by rw [List.getElem?_map, hfj]; rfl) (by rw [List.getElem?_map, List.getElem?_eq_getElem hlt]; rfl) k hk
  · exact absurd hL.symm h0
end
/-- Records that came in are opened. -/
class Opn (α : Type) [Lay α] where
  T : TypeId
  big : α → Prop
  open_ : ∀ {H : Type} {enc : TypeId × Value → H} {W : World} {n : Nat} {cs : List Value} {d : DataW H}, Rdg W enc n T cs d → ∃ x : α, Lay.rep W (· < W.heap.size) x cs ∧ big x
  cells : Try.prog.cellsOf T = Lay.size α
  pos : 0 < Lay.size α
  bytes : 1 ≤ Try.prog.bytesOf T
/-- A slice of them. -/
theorem open_sl {α : Type} [Lay α] [Opn α] {ST : TypeId} (hu : Try.prog.underlying ST = some (.slice (Opn.T α))) {H : Type} {enc : TypeId × Value → H} {W : World} {n : Nat} {v : Value} {d : DataW H} (h : Rdg W enc n ST [v] d) :
    ∃ xs : List α, SliceV W (· < W.heap.size) xs v ∧ xs.length ≤ 140737488355328 ∧ ∀ x ∈ xs, Opn.big x := by
  obtain ⟨⟨p, hp⟩, hs⟩ := h
  have hrb := reachBytes_lt
  rcases open_slice hu hp with ⟨hcs, hx⟩ | ⟨a, len, cap, m, n', D, Pl, hcs, _, hl, hm, hmm, hx, hi⟩
  · obtain rfl : v = .slice none 0 0 := by simpa using hcs
    exact ⟨[], SliceV.nil _ _, by simp, by simp⟩
  · obtain rfl : v = .slice (some a) len cap := by simpa using hcs
    simp only [if_true] at hmm
    injection hx with hx _
    subst hx
    have hw := hs ((len + (m - len)) * Try.prog.bytesOf (Opn.T α)) (by
      simp only [DataW.weights, hu, List.mem_cons]
      left
      simp)
    have hlen : len ≤ 140737488355328 := by
      have h1 : len * 1 ≤ (len + (m - len)) * Try.prog.bytesOf (Opn.T α) := Nat.mul_le_mul (by omega) Opn.bytes
      omega
    have hE : ∀ i, i < len → ∃ x : α, Opn.big x ∧ ∃ cs : List Value, Lay.rep W (· < W.heap.size) x cs ∧ ∀ (j : Nat) (u : Value), cs[j]? = some u → W.cell? ((a.add (i * Lay.size α)).add j) = some u := by
      intro i hil
      obtain ⟨cs', hc, ht⟩ := hi i (by omega)
      rw [Opn.cells] at hc
      obtain ⟨_, hcl, hat⟩ := World.cells?_some hc
      obtain ⟨x, h1, h2⟩ := Opn.open_ (α := α) (enc := enc) (W := W) (n := n') (cs := cs') (d := D i) ⟨⟨_, ht⟩, fun k hk => hs k (by
        simp only [DataW.weights, hu, List.mem_cons, List.mem_append]
        right; left
        exact weightsAll_mem (List.mem_map.2 ⟨i, List.mem_range.2 hil, rfl⟩) hk)⟩
      refine ⟨x, h2, cs', h1, fun j u hj => ?_⟩
      have hj5 : j < Lay.size α := by
        have := (List.getElem?_eq_some_iff.1 hj).1
        omega
      rw [hat j hj5]
      exact hj
    obtain ⟨xs, hxl, hxs⟩ := exists_list len hE
    refine ⟨xs, ⟨some a, cap, by rw [hxl], by omega, hm, (fun e => by cases e), fun k x hk => ?_⟩, by omega, fun x hx => ?_⟩
    · obtain ⟨_, cs, h1, h2⟩ := hxs k x hk
      have hpos : 0 < len := by
        have := (List.getElem?_eq_some_iff.1 hk).1
        omega
      obtain ⟨x0, _, cs0, h10, h20⟩ := hE 0 hpos
      have hcl := Lay.len h10
      obtain ⟨u0, hu0⟩ : ∃ u, cs0[0]? = some u := ⟨_, List.getElem?_eq_getElem (by have := Opn.pos (α := α); omega)⟩
      have hc0 := h20 0 u0 hu0
      have hsp := spot_none hc0
      obtain ⟨g, o, sp⟩ := a
      obtain rfl : sp = none := by simpa [Addr.add] using hsp
      have hb : g < W.heap.size := by
        have := cell_lt hc0
        rwa [add_mk, add_mk] at this
      refine ⟨g, o, cs, rfl, hb, hb, h1, fun j u hj => ?_⟩
      have := h2 j u hj
      rwa [add_mk, add_mk] at this
    · obtain ⟨k, hk⟩ := List.mem_iff_getElem?.1 hx
      exact (hxs k x hk).1
section
variable {H : Type} {enc : TypeId × Value → H} {W : World}
theorem o_undstr : Try.prog.underlying 9 = some .string := by kernel_rfl
theorem rdg_u8 {n : Nat} {v : Value} {d : DataW H} (h : Rdg W enc n 5 [v] d) : ∃ x : UInt8, v = .int .u8 (x.toNat : Int) := by
  obtain ⟨⟨p, hp⟩, _⟩ := h
  obtain ⟨m, e, _, w⟩ := DataW.trod_int und5 hp
  have b := bounds_u8 w
  refine ⟨UInt8.ofNat m.toNat, ?_⟩
  have e' : v = .int .u8 m := by simpa using e
  rw [e', UInt8.toNat_ofNat']
  congr 1
  omega
theorem rdg_u32 {n : Nat} {v : Value} {d : DataW H} (h : Rdg W enc n 30 [v] d) : ∃ x : Nat, v = .int .u32 (x : Int) ∧ x < 4294967296 := by
  obtain ⟨⟨p, hp⟩, _⟩ := h
  obtain ⟨m, e, _, w⟩ := DataW.trod_int o_und23u hp
  have b := bounds_u32 w
  refine ⟨m.toNat, ?_, by omega⟩
  have e' : v = .int .u32 m := by simpa using e
  rw [e']
  congr 1
  omega
theorem rdg_i64 {n : Nat} {v : Value} {d : DataW H} (h : Rdg W enc n 2 [v] d) : ∃ x : Int, v = .int .i64 x ∧ -9223372036854775808 ≤ x ∧ x ≤ 9223372036854775807 := by
  obtain ⟨⟨p, hp⟩, _⟩ := h
  obtain ⟨m, e, _, w⟩ := DataW.trod_int o_und2i hp
  have b := bounds_i64 w
  exact ⟨m, by simpa using e, b.1, b.2⟩
theorem rdg_bool {n : Nat} {v : Value} {d : DataW H} (h : Rdg W enc n 4 [v] d) : ∃ x : Bool, v = .bool x := by
  obtain ⟨⟨p, hp⟩, _⟩ := h
  obtain ⟨m, e, _⟩ := DataW.trod_bool und4 hp
  exact ⟨m, by simpa using e⟩
theorem rdg_str {n : Nat} {v : Value} {d : DataW H} (h : Rdg W enc n 9 [v] d) : ∃ l : List UInt8, v = strV l ∧ l.length ≤ 140737488355328 := by
  obtain ⟨⟨p, hp⟩, hw⟩ := h
  obtain ⟨s, e, hx, _⟩ := DataW.trod_string o_undstr hp
  injection hx with hx _
  subst hx
  have := hw s.data.toList.length (by simp [DataW.weights])
  have hrb := reachBytes_lt
  refine ⟨s.data.toList, ?_, by omega⟩
  have e' : v = .string s := by simpa using e
  rw [e']
  unfold strV
  simp
end
theorem two_of {α : Type} {l : List α} (h : l.length = 2) : ∃ a b, l = [a, b] := by
  match l, h with
  | [a, b], _ => exact ⟨a, b, rfl⟩
theorem three_of {α : Type} {l : List α} (h : l.length = 3) : ∃ a b c, l = [a, b, c] := by
  match l, h with
  | [a, b, c], _ => exact ⟨a, b, c, rfl⟩
instance : Opn UInt8 where
  T := 5
  big _ := True
  open_ {_ _ _ _ cs _} h := by
    have h0 := h
    obtain ⟨⟨p, hp⟩, _⟩ := h
    obtain ⟨m, e, _, w⟩ := DataW.trod_int und5 hp
    subst e
    obtain ⟨x, e⟩ := rdg_u8 h0
    exact ⟨x, by rw [e]; rfl, trivial⟩
  cells := by kernel_rfl
  pos := by decide
  bytes := by rw [show Try.prog.bytesOf 5 = 1 by kernel_rfl]; omega
instance : Opn Nat where
  T := 30
  big _ := True
  open_ {_ _ _ _ cs _} h := by
    have h0 := h
    obtain ⟨⟨p, hp⟩, _⟩ := h
    obtain ⟨m, e, _, w⟩ := DataW.trod_int o_und23u hp
    subst e
    obtain ⟨x, e, hx⟩ := rdg_u32 h0
    exact ⟨x, ⟨by rw [e], hx⟩, trivial⟩
  cells := by kernel_rfl
  pos := by decide
  bytes := by rw [show Try.prog.bytesOf 30 = 4 by kernel_rfl]; omega
def most : Nat := 140737488355328
theorem o_und22 : Try.prog.underlying 22 = some (.slice (Opn.T UInt8)) := by kernel_rfl
def bigE (xs : List I) : Prop := xs.length ≤ most ∧ ∀ x ∈ xs, x.l.length ≤ most
end Go.Proofs.Ythkglmkpnhhboaa
