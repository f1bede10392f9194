/-
  How a slice of instructions that came in is opened: to instructions, each one's labels opened too; and how long they are at most.
-/
import Derived.Test.YtakbehoglgebmaaQ03
import Derived.Test.YtakbehoglgebmaaQ10
import Derived.Deep.Slices
import Derived.Deep.Fields
import Derived.ChangeSame
import Derived.SizedLaws
import Derived.Test.YtakbehoglgebmaaQ02
import Derived.Test.YtakbehoglgebmaaQ05
import Derived.Deep.Cut
import Derived.IntWalk
namespace Go.Proofs.Ytakbehoglgebmaa
open Go.RowKit Ins
open Go.ChangeShapes Go.WideShapes Go.ChangeAt Go.Deep
noncomputable def fsI : Array Field := match Try.prog.underlying 49 with
  | some (.struct fs) => fs
  | _ => #[]
theorem o_undI : Try.prog.underlying 49 = some (.struct fsI) := by kernel_rfl
theorem o_und24s : Try.prog.underlying 24 = some (.slice 28) := by kernel_rfl
theorem o_und23u : Try.prog.underlying 28 = some (.int .u32) := by kernel_rfl
theorem o_und2i : Try.prog.underlying 2 = some (.int .i64) := by kernel_rfl
theorem o_cells23 : Try.prog.cellsOf 28 = 1 := by kernel_rfl
theorem o_cellsI : Try.prog.cellsOf 49 = 5 := by kernel_rfl
theorem o_oneI : oneCellFields Try.prog fsI = true := by kernel_rfl
theorem o_sizeFs : fsI.size = 5 := by kernel_rfl
theorem o_typesFs : fsI.toList.map (·.type) = [5, 28, 28, 2, 24] := by kernel_rfl
theorem o_bytes23 : Try.prog.bytesOf 28 = 4 := by kernel_rfl
theorem fieldI (j : Nat) (t : TypeId) (h : [5, 28, 28, 2, 24][j]? = some t) : ∃ f, fsI[j]? = some f ∧ f.type = t := by
  rw [← o_typesFs, List.getElem?_map] at h
  cases hf : fsI.toList[j]? with
  | none => rw [hf] at h; cases h
  | some f =>
    rw [hf] at h
    exact ⟨f, by rw [← Array.getElem?_toList]; exact hf, Option.some.inj h⟩
theorem exists_list {α : Type} {E : Nat → α → Prop} : ∀ (n : Nat), (∀ i, i < n → ∃ x, E i x) → ∃ xs : List α, xs.length = n ∧ ∀ i x, xs[i]? = some x → E i x
  | 0, _ => ⟨[], rfl, fun i x h => by simp at h⟩
  | n + 1, h => by
    obtain ⟨xs, h1, h2⟩ := exists_list n (fun i hi => h i (by omega))
    obtain ⟨x, hx⟩ := h n (by omega)
    refine ⟨xs ++ [x], by simp [h1], fun i y hy => ?_⟩
    by_cases hi : i < n
    · rw [List.getElem?_append_left (by omega)] at hy
      exact h2 i y hy
    · rw [List.getElem?_append_right (by omega)] at hy
      have e : i - xs.length = 0 := by
        rcases Nat.eq_zero_or_pos (i - xs.length) with h | h
        · exact h
        · rw [List.getElem?_eq_none (by simp; omega)] at hy; cases hy
      rw [e] at hy
      obtain rfl : x = y := Option.some.inj hy
      obtain rfl : i = n := by omega
      exact hx
theorem weightsAll_mem {H : Type} {P : Program} {e : TypeId} : ∀ {ds : List (DataW H)} {d : DataW H} {n : Nat}, d ∈ ds → n ∈ d.weights P e → n ∈ DataW.weightsAll P e ds
  | d0 :: ds, d, n, hd, hn => by
    simp only [DataW.weightsAll, List.mem_append]
    rcases List.mem_cons.1 hd with rfl | hd
    · exact .inl hn
    · exact .inr (weightsAll_mem hd hn)
set_option maxRecDepth 100000
theorem spot_none {w : World} {a : Addr} {v : Value} (h : w.cell? a = some v) : a.spot = none := by
  unfold World.cell? at h
  split at h
  · split at h
    · cases h
    · rename_i hs
      cases ha : a.spot with
      | none => rfl
      | some x => rw [ha] at hs; simp at hs
  · cases h
theorem add_mk (g o k : Nat) : (⟨g, o, none⟩ : Addr).add k = ⟨g, o + k, none⟩ := by
  unfold Addr.add
  split
  · rename_i h0; subst h0; rfl
  · rfl
theorem bulk_one {H : Type} (d : DataW H) : 1 ≤ Rows.uptoBulk d := by
  cases d with
  | lit l => cases l <;> simp [Rows.uptoBulk]
  | nil => simp [Rows.uptoBulk]
  | ptr d => simp [Rows.uptoBulk]
  | slice elems spare => simp [Rows.uptoBulk]
  | agg parts => simp [Rows.uptoBulk]
  | iface t d => simp [Rows.uptoBulk]
  | map entries => simp [Rows.uptoBulk]
  | held h => simp [Rows.uptoBulk]
theorem bulk_len {H : Type} (l : List (DataW H)) : l.length ≤ Rows.uptoBulkAll l := by
  induction l with
  | nil => simp [Rows.uptoBulkAll]
  | cons x r ih => have := bulk_one x; simp only [Rows.uptoBulkAll, List.length_cons]; omega
theorem tot_mem : ∀ {xs : List I} {x : I}, x ∈ xs → x.l.length + 5 ≤ tot xs
  | y :: xs, x, h => by
    simp only [tot]
    rcases List.mem_cons.1 h with rfl | h
    · omega
    · have := tot_mem h; omega
section
variable {H : Type} {enc : TypeId × Value → H} {W : World}
/-- Labels that came in. -/
theorem open_labels {n : Nat} {v : Value} {y : DataW H × List MemPlace} (h : DataW.trod enc Try.prog W 0 (fun _ => true) true n 24 [v] = some y) (hs : ∀ k ∈ y.1.weights Try.prog 24, k ≤ reachBytes) :
    ∃ (A : Option Addr) (c : Nat) (l : List Nat), v = .slice A l.length c ∧ l.length ≤ c ∧ c ≤ maxLen ∧ l.length ≤ 140737488355328 ∧ (∀ x ∈ l, x < 4294967296) ∧ HasU W (· < W.heap.size) A l ∧ l.length ≤ Rows.uptoBulk y.1 := by
  rcases open_ints o_und24s o_und23u o_cells23 h with ⟨hcs, rfl⟩ | ⟨a, len, cap, zs, hcs, _, hl, hm, hz, rfl, hcell, hwz⟩
  · obtain rfl : v = .slice none 0 0 := by simpa using hcs
    exact ⟨none, 0, [], rfl, Nat.le_refl _, by unfold maxLen; omega, by simp, by simp, HasU.nil _ _ _, by simp⟩
  · obtain rfl : v = .slice (some a) len cap := by simpa using hcs
    simp only [if_true] at hz
    have hlen : ((zs.take len).map Int.toNat).length = len := by simp; omega
    have hw := hs ((len + (cap - len)) * 4) (by
      simp only [DataW.weights, o_und24s, o_bytes23, List.mem_cons]
      left
      simp [lits]
      omega)
    have hrb := reachBytes_lt
    refine ⟨some a, cap, (zs.take len).map Int.toNat, by rw [hlen], by omega, hm, by omega, ?_, ?_, ?_⟩
    rotate_left 2
    · have h1 := bulk_len (H := H) (lits .u32 (zs.take len))
      have h2 : (lits (H := H) .u32 (zs.take len)).length = (zs.take len).length := by simp [lits]
      simp only [Rows.uptoBulk, List.length_map]
      omega
    · intro x hx
      obtain ⟨z, hz1, rfl⟩ := List.mem_map.1 hx
      have hr := bounds_u32 (hwz z (List.mem_of_mem_take hz1))
      omega
    · intro k x hk
      rw [List.getElem?_map, List.getElem?_take] at hk
      split at hk
      case isFalse => simp at hk
      case isTrue hkl =>
        have hkz : k < zs.length := by omega
        rw [List.getElem?_eq_getElem hkz] at hk
        simp only [Option.map_some, Option.some.injEq] at hk
        have hc0 := hcell 0 (by omega)
        have hc := hcell k hkz
        rw [List.getD_eq_getElem?_getD, List.getElem?_eq_getElem hkz, Option.getD_some] at hc
        have hr := bounds_u32 (hwz zs[k] (List.getElem_mem hkz))
        have hsp := spot_none hc0
        obtain ⟨g, o, sp⟩ := a
        obtain rfl : sp = none := by simpa [Addr.add] using hsp
        refine ⟨g, o, rfl, cell_lt hc0, ?_⟩
        rw [add_mk] at hc
        rw [hc, ← hk]
        congr 2
        omega
/-- An instruction that came in, out of its five cells. -/
theorem open_cells {n : Nat} {cs : List Value} {y : DataW H × List MemPlace} (h : DataW.trod enc Try.prog W 0 (fun _ => true) true n 49 cs = some y) (hs : ∀ k ∈ y.1.weights Try.prog 49, k ≤ reachBytes) :
    ∃ (A : Option Addr) (c : Nat) (x : I), cs = insCells x A c ∧ x.wf ∧ x.l.length ≤ c ∧ c ≤ maxLen ∧ x.l.length ≤ 140737488355328 ∧ HasU W (· < W.heap.size) A x.l ∧ x.l.length + 5 ≤ Rows.uptoBulk y.1 := by
  obtain ⟨ys, n', _, rfl, hcl, hyl, hf⟩ := DataW.trod_struct o_undI h
  rw [o_cellsI] at hcl
  rw [o_sizeFs] at hyl
  obtain ⟨f0, hf0, ht0⟩ := fieldI 0 _ rfl
  obtain ⟨f1, hf1, ht1⟩ := fieldI 1 _ rfl
  obtain ⟨f2, hf2, ht2⟩ := fieldI 2 _ rfl
  obtain ⟨f3, hf3, ht3⟩ := fieldI 3 _ rfl
  obtain ⟨f4, hf4, ht4⟩ := fieldI 4 _ rfl
  obtain ⟨o0, k0⟩ := hone_of o_oneI 0 f0 hf0
  obtain ⟨o1, k1⟩ := hone_of o_oneI 1 f1 hf1
  obtain ⟨o2, k2⟩ := hone_of o_oneI 2 f2 hf2
  obtain ⟨o3, k3⟩ := hone_of o_oneI 3 f3 hf3
  obtain ⟨o4, k4⟩ := hone_of o_oneI 4 f4 hf4
  match cs, hcl with
  | [c0, c1, c2, c3, c4], _ =>
    match ys, hyl with
    | [y0, y1, y2, y3, y4], _ =>
      have g0 := hf 0 f0 hf0
      have g1 := hf 1 f1 hf1
      have g2 := hf 2 f2 hf2
      have g3 := hf 3 f3 hf3
      have g4 := hf 4 f4 hf4
      rw [o0, k0, ht0] at g0
      rw [o1, k1, ht1] at g1
      rw [o2, k2, ht2] at g2
      rw [o3, k3, ht3] at g3
      rw [o4, k4, ht4] at g4
      obtain ⟨m0, e0, _, w0⟩ := DataW.trod_int und5 g0
      obtain ⟨m1, e1, _, w1⟩ := DataW.trod_int o_und23u g1
      obtain ⟨m2, e2, _, w2⟩ := DataW.trod_int o_und23u g2
      obtain ⟨m3, e3, _, w3⟩ := DataW.trod_int o_und2i g3
      obtain rfl : c0 = .int .u8 m0 := by simpa using e0
      obtain rfl : c1 = .int .u32 m1 := by simpa using e1
      obtain rfl : c2 = .int .u32 m2 := by simpa using e2
      obtain rfl : c3 = .int .i64 m3 := by simpa using e3
      have b0 := bounds_u8 w0
      have b1 := bounds_u32 w1
      have b2 := bounds_u32 w2
      have b3 := bounds_i64 w3
      have g4' : DataW.trod enc Try.prog W 0 (fun _ => true) true n' 24 [c4] = some y4 := g4
      obtain ⟨A, c, l, rfl, hl1, hl2, hl3, hl4, hU, hbk⟩ := open_labels g4' (fun k hk => hs k (by
        simp only [DataW.weights, o_undI, o_typesFs, List.map_cons, List.map_nil, DataW.weightsEach, List.mem_append]
        simp [hk]))
      refine ⟨A, c, ⟨m0.toNat, m1.toNat, m2.toNat, m3, l⟩, ?_, ⟨by simp only; omega, by simp only; omega, by simp only; omega, b3.1, b3.2, hl4⟩, hl1, hl2, hl3, hU, ?_⟩
      rotate_left 1
      · have q0 := bulk_one y0.1
        have q1 := bulk_one y1.1
        have q2 := bulk_one y2.1
        have q3 := bulk_one y3.1
        simp only [List.map_cons, List.map_nil, Rows.uptoBulk, Rows.uptoBulkAll]
        omega
      simp only [insCells]
      rw [Int.toNat_of_nonneg b0.1, Int.toNat_of_nonneg b1.1, Int.toNat_of_nonneg b2.1]
end
end Go.Proofs.Ytakbehoglgebmaa
/-
  Slices that read as a binary's sections, and rows of the call's own that do; one section more in such a row.
-/
namespace Go.Proofs.Ytakbehoglgebmaa
open Go.RowKit Sec
/-- A section's two cells. -/
def secCells (x : S) (A : Option Addr) (c : Nat) : List Value := [.int .u8 (x.id : Int), .slice A x.b.length c]
/-- A slice with address A reads as sections, all of it below block B. -/
def HasS (w : World) (B : Nat) (A : Option Addr) (xs : List S) : Prop := ∀ (k : Nat) (x : S), xs[k]? = some x → ∃ g o A' c, A = some ⟨g, o, none⟩ ∧ g < B ∧ x.id < 256 ∧ x.b.length ≤ c ∧ c ≤ maxLen ∧ (A' = none → c = 0) ∧ Has w B A' x.b ∧
  w.cell? ⟨g, o + k * 2, none⟩ = some (.int .u8 (x.id : Int)) ∧ w.cell? ⟨g, o + k * 2 + 1, none⟩ = some (.slice A' x.b.length c)
theorem HasS.nil (w : World) (B : Nat) (A : Option Addr) : HasS w B A [] := fun k x hx => by simp at hx
theorem HasS.on {w w' : World} {A : Option Addr} {xs : List S} (h : HasS w w.heap.size A xs) (hb : Below w.heap.size w w') : HasS w' w'.heap.size A xs := fun k x hk => by
  obtain ⟨g, o, A', c, h1, h2, h3, h4, h5, h6, h7, h8, h9⟩ := h k x hk
  exact ⟨g, o, A', c, h1, Nat.lt_of_lt_of_le h2 hb.size, h3, h4, h5, h6, h7.on hb, (hb.cell h2).trans h8, (hb.cell h2).trans h9⟩
theorem HasS.take {w : World} {B : Nat} {A : Option Addr} {xs : List S} (h : HasS w B A xs) (n : Nat) : HasS w B A (xs.take n) := fun k x hk => by
  rw [List.getElem?_take] at hk
  split at hk
  · exact h k x hk
  · cases hk
/-- The cells of sections, one behind the other; of each where its bytes lie. -/
def rowS (ys : List (S × Option Addr × Nat)) : List Value := ys.flatMap fun y => secCells y.1 y.2.1 y.2.2
theorem rowS_length (ys : List (S × Option Addr × Nat)) : (rowS ys).length = ys.length * 2 := by
  induction ys with
  | nil => rfl
  | cons y ys ih => simp only [rowS, List.flatMap_cons, List.length_append, List.length_cons] at ih ⊢; rw [ih]; simp [secCells]; omega
theorem rowS_at : ∀ (ys : List (S × Option Addr × Nat)) (k : Nat) (y : S × Option Addr × Nat), ys[k]? = some y → ∀ j u, (secCells y.1 y.2.1 y.2.2)[j]? = some u → (rowS ys)[k * 2 + j]? = some u
  | [], k, y, h, _, _, _ => by simp at h
  | z :: ys, 0, y, h, j, u, hj => by
    simp at h; subst h
    simp only [rowS, List.flatMap_cons, Nat.zero_mul, Nat.zero_add]
    rw [List.getElem?_append_left (by exact (List.getElem?_eq_some_iff.1 hj).1)]
    exact hj
  | z :: ys, k + 1, y, h, j, u, hj => by
    have ih := rowS_at ys k y (by simpa using h) j u hj
    simp only [rowS, List.flatMap_cons] at ih ⊢
    rw [List.getElem?_append_right (by simp [secCells]; omega), ← ih]
    congr 1
    simp [secCells]; omega
/-- A row of the call's own that reads as sections; their bytes lie elsewhere. -/
def OwnS (w : World) (T : TypeId) (base : Nat) (v : Value) (n : Nat) (xs : List S) : Prop :=
  ∃ ys, ys.map (·.1) = xs ∧ w.ownsRow base T 2 v n (rowS ys) ∧ ∀ y ∈ ys, y.1.id < 256 ∧ y.1.b.length ≤ y.2.2 ∧ y.2.2 ≤ maxLen ∧ (y.2.1 = none → y.2.2 = 0) ∧ Has w w.heap.size y.2.1 y.1.b ∧ ∀ ad, y.2.1 = some ad → y.1.b ≠ [] → v.ownBlock ≠ some ad.block
theorem OwnS.len {w : World} {T : TypeId} {base : Nat} {v : Value} {n : Nat} {xs : List S} (h : OwnS w T base v n xs) : n = xs.length := by
  obtain ⟨ys, rfl, h1, _⟩ := h
  have := h1.1
  rw [rowS_length] at this
  simp; omega
theorem OwnS.nil (w : World) (T : TypeId) (base : Nat) : OwnS w T base (.slice none 0 0) 0 [] := ⟨[], rfl, World.ownsRow_nil _ _ _ _, by simp⟩
theorem OwnS.on {w w' : World} {T : TypeId} {base : Nat} {v : Value} {n : Nat} {xs : List S} (h : OwnS w T base v n xs) (hb : Below w.heap.size w w') : OwnS w' T base v n xs := by
  obtain ⟨ys, h0, h1, h2⟩ := h
  exact ⟨ys, h0, (Mod.of_below (T := fun _ => False) hb).own h1 (fun _ _ h => h), fun y hy => by
    obtain ⟨q1, q2, q3, q4, q5, q6⟩ := h2 y hy
    exact ⟨q1, q2, q3, q4, q5.on hb, q6⟩⟩
theorem add2 (g j : Nat) : (⟨g, 0, none⟩ : Addr).add j = ⟨g, 0 + j, none⟩ := by
  unfold Addr.add; split
  · next h => subst h; rfl
  · simp
/-- What the row is told as. -/
theorem OwnS.tell {w : World} {T : TypeId} {base : Nat} {v : Value} {n : Nat} {xs : List S} (h : OwnS w T base v n xs) : ∃ A c, v = .slice A xs.length c ∧ xs.length ≤ c ∧ c ≤ maxLen ∧ HasS w w.heap.size A xs := by
  have hn := h.len
  obtain ⟨ys, h0, h1, h2⟩ := h
  subst hn
  rcases h1.2 with ⟨rfl, h3⟩ | ⟨g, cap, cur, rfl, hb, hh, hc, hm, _, htk⟩
  · have : xs = [] := List.eq_nil_of_length_eq_zero h3
    subst this
    exact ⟨none, 0, rfl, Nat.le_refl _, by unfold maxLen; omega, HasS.nil _ _ _⟩
  · refine ⟨_, cap, rfl, hc, hm, fun k x hk => ?_⟩
    rw [← h0, List.getElem?_map, Option.map_eq_some_iff] at hk
    obtain ⟨y, hy, rfl⟩ := hk
    obtain ⟨q1, q2, q3, q4, q5, q6⟩ := h2 y (List.mem_of_getElem? hy)
    have hg : g < w.heap.size := (Array.getElem?_eq_some_iff.1 hh).1
    refine ⟨g, 0, y.2.1, y.2.2, rfl, hg, q1, q2, q3, q4, q5, ?_, ?_⟩
    · have := h1.cells (g := g) rfl (k * 2 + 0) _ (rowS_at ys k y hy 0 _ rfl)
      rwa [add2] at this
    · have := h1.cells (g := g) rfl (k * 2 + 1) _ (rowS_at ys k y hy 1 _ rfl)
      rw [add2] at this
      exact this
end Go.Proofs.Ytakbehoglgebmaa
/-
  How a slice of sections that came in is opened: to sections, each one's bytes opened too; and how long they are at most.
-/
namespace Go.Proofs.Ytakbehoglgebmaa
open Go.RowKit Sec
open Go.ChangeShapes Go.WideShapes Go.ChangeAt Go.Deep
set_option maxRecDepth 100000
section
variable {H : Type} {enc : TypeId × Value → H} {W : World}
end
end Go.Proofs.Ytakbehoglgebmaa
