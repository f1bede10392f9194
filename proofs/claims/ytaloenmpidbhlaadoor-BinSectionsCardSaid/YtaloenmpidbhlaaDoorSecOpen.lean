/-
  How a slice of sections that came in is opened: to sections, each one's bytes opened too; and how long they are at most.
-/
import Derived.Test.YtaloenmpidbhlaaDoorSecSame
import Derived.Test.YtaloenmpidbhlaaDoorOpen
import Derived.Deep.Slices
import Derived.Deep.Fields
import Derived.ChangeSame
import Derived.SizedLaws
namespace Go.Proofs.YtaloenmpidbhlaaDoor
open Go.RowKit Sec
open Go.ChangeShapes Go.WideShapes Go.ChangeAt Go.Deep
noncomputable def fsS : Array Field := match Tryd.prog.underlying 69 with
  | some (.struct fs) => fs
  | _ => #[]
theorem o_undSs : Tryd.prog.underlying 63 = some (.slice 69) := by kernel_rfl
theorem o_undS : Tryd.prog.underlying 69 = some (.struct fsS) := by kernel_rfl
theorem o_cellsS : Tryd.prog.cellsOf 69 = 2 := by kernel_rfl
theorem o_oneS : oneCellFields Tryd.prog fsS = true := by kernel_rfl
theorem o_sizeS : fsS.size = 2 := by kernel_rfl
theorem o_typesS : fsS.toList.map (·.type) = [5, 22] := by kernel_rfl
theorem o_bytesS : Tryd.prog.bytesOf 69 = 32 := by kernel_rfl
theorem o_bytes5 : Tryd.prog.bytesOf 5 = 1 := by kernel_rfl
theorem fieldS (j : Nat) (t : TypeId) (h : [5, 22][j]? = some t) : ∃ f, fsS[j]? = some f ∧ f.type = t := by
  rw [← o_typesS, List.getElem?_map] at h
  cases hf : fsS.toList[j]? with
  | none => rw [hf] at h; cases h
  | some f =>
    rw [hf] at h
    exact ⟨f, by rw [← Array.getElem?_toList]; exact hf, Option.some.inj h⟩
private theorem exists_list {α : Type} {E : Nat → α → Prop} : ∀ (n : Nat), (∀ i, i < n → ∃ x, E i x) → ∃ xs : List α, xs.length = n ∧ ∀ i x, xs[i]? = some x → E i x
  | 0, _ => ⟨[], rfl, fun i x h => by simp at h⟩
  | n + 1, h => by
    obtain ⟨xs, h1, h2⟩ := exists_list n (fun i hi => h i (by omega))
    obtain ⟨x, hx⟩ := h n (by omega)
    refine ⟨xs ++ [x], by simp [h1], fun i y hy => ?_⟩
    by_cases hi : i < n
    · rw [List.getElem?_append_left (by omega)] at hy
      exact h2 i y hy
    · rw [List.getElem?_append_right (by omega)] at hy
      have e : i - xs.length = 0 := by
        rcases Nat.eq_zero_or_pos (i - xs.length) with h | h
        · exact h
        · rw [List.getElem?_eq_none (by simp; omega)] at hy; cases hy
      rw [e] at hy
      obtain rfl : x = y := Option.some.inj hy
      obtain rfl : i = n := by omega
      exact hx
private theorem weightsAll_mem {H : Type} {P : Program} {e : TypeId} : ∀ {ds : List (DataW H)} {d : DataW H} {n : Nat}, d ∈ ds → n ∈ d.weights P e → n ∈ DataW.weightsAll P e ds
  | d0 :: ds, d, n, hd, hn => by
    simp only [DataW.weightsAll, List.mem_append]
    rcases List.mem_cons.1 hd with rfl | hd
    · exact .inl hn
    · exact .inr (weightsAll_mem hd hn)
set_option maxRecDepth 100000
private theorem spot_none {w : World} {a : Addr} {v : Value} (h : w.cell? a = some v) : a.spot = none := by
  unfold World.cell? at h
  split at h
  · split at h
    · cases h
    · rename_i hs
      cases ha : a.spot with
      | none => rfl
      | some x => rw [ha] at hs; simp at hs
  · cases h
private theorem add_mk (g o k : Nat) : (⟨g, o, none⟩ : Addr).add k = ⟨g, o + k, none⟩ := by
  unfold Addr.add
  split
  · rename_i h0; subst h0; rfl
  · rfl
section
variable {H : Type} {enc : TypeId × Value → H} {W : World}
/-- Bytes that came in, out of their one cell. -/
theorem open_row {n : Nat} {v : Value} {y : DataW H × List MemPlace} (h : DataW.trod enc Tryd.prog W 0 (fun _ => true) true n 22 [v] = some y) (hs : ∀ k ∈ y.1.weights Tryd.prog 22, k ≤ reachBytes) :
    ∃ (A : Option Addr) (c : Nat) (l : List UInt8), v = .slice A l.length c ∧ l.length ≤ c ∧ c ≤ maxLen ∧ l.length ≤ 140737488355328 ∧ (A = none → c = 0) ∧ Has W W.heap.size A l := by
  rcases open_ints und22 und5 cellsU8 h with ⟨hcs, rfl⟩ | ⟨a, len, cap, zs, hcs, _, hl, hm, hz, rfl, hcell, hwz⟩
  · obtain rfl : v = .slice none 0 0 := by simpa using hcs
    exact ⟨none, 0, [], rfl, Nat.le_refl _, by unfold maxLen; omega, by simp, fun _ => rfl, Has.nil _ _ _⟩
  · obtain rfl : v = .slice (some a) len cap := by simpa using hcs
    simp only [if_true] at hz
    have hlen : ((zs.take len).map fun n => UInt8.ofNat n.toNat).length = len := by simp; omega
    have hw := hs ((len + (cap - len)) * 1) (by
      simp only [DataW.weights, und22, o_bytes5, List.mem_cons]
      left
      simp [lits]
      omega)
    have hrb := reachBytes_lt
    refine ⟨some a, cap, (zs.take len).map fun n => UInt8.ofNat n.toNat, by rw [hlen], by omega, hm, by omega, by simp, fun k x hx => ⟨a, rfl, ?_, ?_⟩⟩
    all_goals
      rw [List.getElem?_map, List.getElem?_take] at hx
      split at hx
      case isFalse => simp at hx
      case isTrue hk =>
        have hkz : k < zs.length := by omega
        rw [List.getElem?_eq_getElem hkz] at hx
        simp only [Option.map_some, Option.some.injEq] at hx
        have hc := hcell k hkz
        rw [List.getD_eq_getElem?_getD, List.getElem?_eq_getElem hkz, Option.getD_some] at hc
        first
        | (have hlt := cell_lt hc
           have hb : (a.add k).block = a.block := by unfold Addr.add; split <;> rfl
           rw [hb] at hlt
           exact hlt)
        | (have hr := bounds_u8 (hwz zs[k] (List.getElem_mem hkz))
           rw [hc, ← hx, UInt8.toNat_ofNat']
           congr 2
           omega)
/-- A section that came in, out of its two cells. -/
theorem open_cells {n : Nat} {cs : List Value} {y : DataW H × List MemPlace} (h : DataW.trod enc Tryd.prog W 0 (fun _ => true) true n 69 cs = some y) (hs : ∀ k ∈ y.1.weights Tryd.prog 69, k ≤ reachBytes) :
    ∃ (A : Option Addr) (c : Nat) (x : S), cs = secCells x A c ∧ x.id < 256 ∧ x.b.length ≤ c ∧ c ≤ maxLen ∧ x.b.length ≤ 140737488355328 ∧ (A = none → c = 0) ∧ Has W W.heap.size A x.b := by
  obtain ⟨ys, n', _, rfl, hcl, hyl, hf⟩ := DataW.trod_struct o_undS h
  rw [o_cellsS] at hcl
  rw [o_sizeS] at hyl
  obtain ⟨f0, hf0, ht0⟩ := fieldS 0 _ rfl
  obtain ⟨f1, hf1, ht1⟩ := fieldS 1 _ rfl
  obtain ⟨o0, k0⟩ := hone_of o_oneS 0 f0 hf0
  obtain ⟨o1, k1⟩ := hone_of o_oneS 1 f1 hf1
  match cs, hcl with
  | [c0, c1], _ =>
    match ys, hyl with
    | [y0, y1], _ =>
      have g0 := hf 0 f0 hf0
      have g1 := hf 1 f1 hf1
      rw [o0, k0, ht0] at g0
      rw [o1, k1, ht1] at g1
      obtain ⟨m0, e0, _, w0⟩ := DataW.trod_int und5 g0
      obtain rfl : c0 = .int .u8 m0 := by simpa using e0
      have b0 := bounds_u8 w0
      have g1' : DataW.trod enc Tryd.prog W 0 (fun _ => true) true n' 22 [c1] = some y1 := g1
      obtain ⟨A, c, l, rfl, hl1, hl2, hl3, hl4, hU⟩ := open_row g1' (fun k hk => hs k (by
        simp only [DataW.weights, o_undS, o_typesS, List.map_cons, List.map_nil, DataW.weightsEach, List.mem_append]
        simp [hk]))
      refine ⟨A, c, ⟨m0.toNat, l⟩, ?_, by simp only; omega, hl1, hl2, hl3, hl4, hU⟩
      simp only [secCells]
      rw [Int.toNat_of_nonneg b0.1]
/-- A slice of sections that came in. -/
theorem open_secs {base : Nat} {v : Value} {d : DataW H} {p : List MemPlace} (hval : Value.okWide Tryd.prog W .any base 63 v) (h : DataW.Trod enc Tryd.prog W 0 (fun _ => true) true 63 v d p) (hs : ∀ k ∈ d.weights Tryd.prog 63, k ≤ reachBytes) :
    ∃ (A : Option Addr) (n c : Nat) (xs : List S), v = .slice A n c ∧ n = xs.length ∧ n ≤ c ∧ c ≤ maxLen ∧ (A = none → c = 0) ∧ n ≤ 140737488355328 ∧ (∀ x ∈ xs, x.b.length ≤ 140737488355328) ∧ HasS W W.heap.size A xs := by
  obtain ⟨a1, len, cap, rfl⟩ := okWide_slice o_undSs hval
  obtain ⟨fuel, hf⟩ := h
  have hrb := reachBytes_lt
  rcases open_slice o_undSs hf with ⟨hcs, hx⟩ | ⟨a, len', cap', m, n', D, Pl, hcs, _, hl, hm, hmm, hx, hi⟩
  · simp [Value.cells] at hcs
    obtain ⟨rfl, rfl, rfl⟩ := hcs
    exact ⟨none, 0, 0, [], rfl, rfl, Nat.le_refl _, by unfold maxLen; omega, fun _ => rfl, by omega, by simp, HasS.nil _ _ _⟩
  · simp [Value.cells] at hcs
    obtain ⟨rfl, rfl, rfl⟩ := hcs
    simp only [if_true] at hmm
    simp only [Prod.mk.injEq] at hx
    obtain ⟨rfl, _⟩ := hx
    have hw := hs ((len + (m - len)) * 32) (by
      simp only [DataW.weights, o_undSs, o_bytesS, List.mem_cons]
      left
      simp)
    have hE : ∀ i, i < len → ∃ x : S, ∃ (A : Option Addr) (c : Nat), x.id < 256 ∧ x.b.length ≤ c ∧ c ≤ maxLen ∧ x.b.length ≤ 140737488355328 ∧ (A = none → c = 0) ∧ Has W W.heap.size A x.b ∧ ∀ (j : Nat) (u : Value), (secCells x A c)[j]? = some u → W.cell? ((a.add (i * 2)).add j) = some u := by
      intro i hil
      obtain ⟨cs', hc, ht⟩ := hi i (by omega)
      rw [o_cellsS] at hc
      obtain ⟨_, hcl, hat⟩ := World.cells?_some hc
      obtain ⟨A, c, x, hcx, h1, h2, h3, h4, h5, h6⟩ := open_cells ht (fun k hk => hs k (by
        simp only [DataW.weights, o_undSs, List.mem_cons, List.mem_append]
        right; left
        exact weightsAll_mem (List.mem_map.2 ⟨i, List.mem_range.2 hil, rfl⟩) hk))
      refine ⟨x, A, c, h1, h2, h3, h4, h5, h6, fun j u hj => ?_⟩
      have hj5 : j < 2 := by
        have := (List.getElem?_eq_some_iff.1 hj).1
        simpa [secCells] using this
      rw [hat j hj5, hcx]
      exact hj
    obtain ⟨xs, hxl, hxs⟩ := exists_list len hE
    refine ⟨some a, len, cap, xs, rfl, hxl.symm, hl, hm, by simp, by omega, ?_, ?_⟩
    · intro x hx
      obtain ⟨k, hk⟩ := List.mem_iff_getElem?.1 hx
      obtain ⟨_, _, _, _, _, h, _⟩ := hxs k x hk
      exact h
    · intro k x hk
      obtain ⟨A, c, h1, h2, h3, _, h5, h7, h6⟩ := hxs k x hk
      have hpos : 0 < len := by
        have := (List.getElem?_eq_some_iff.1 hk).1
        omega
      obtain ⟨x0, A0, c0, _, _, _, _, _, _, h0⟩ := hE 0 hpos
      have hc0 := h0 0 _ rfl
      have hsp := spot_none hc0
      obtain ⟨g, o, sp⟩ := a
      obtain rfl : sp = none := by simpa [Addr.add] using hsp
      have h60 := h6 0 _ rfl
      have h61 := h6 1 _ rfl
      rw [add_mk, add_mk] at h60 h61
      exact ⟨g, o, A, c, rfl, by have := cell_lt hc0; simpa [Addr.add] using this, h1, h2, h3, h5, h7, h60, h61⟩
/-- A slice of bytes that came in, with its bounds. -/
theorem open_bytesS {base : Nat} {v : Value} {d : DataW H} {p : List MemPlace} (hval : Value.okWide Tryd.prog W .any base 22 v) (h : DataW.Trod enc Tryd.prog W 0 (fun _ => true) true 22 v d p) (hs : ∀ k ∈ d.weights Tryd.prog 22, k ≤ reachBytes) :
    ∃ (A : Option Addr) (n c : Nat) (l : List UInt8), v = .slice A n c ∧ n = l.length ∧ n ≤ c ∧ c ≤ maxLen ∧ n ≤ 140737488355328 ∧ (A = none → c = 0) ∧ Has W W.heap.size A l := by
  obtain ⟨a1, len, cap, rfl⟩ := okWide_slice und22 hval
  obtain ⟨fuel, hf⟩ := h
  have hf' : DataW.trod enc Tryd.prog W 0 (fun _ => true) true fuel 22 [.slice a1 len cap] = some (d, p) := by simpa [Value.cells] using hf
  obtain ⟨A, c, l, he, h1, h2, h3, h4, h5⟩ := open_row hf' hs
  exact ⟨A, l.length, c, l, he, rfl, h1, h2, h3, h4, h5⟩
end
end Go.Proofs.YtaloenmpidbhlaaDoor
