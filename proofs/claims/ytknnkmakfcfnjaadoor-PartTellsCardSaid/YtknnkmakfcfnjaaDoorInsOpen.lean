/-
  How a slice of instructions that came in is opened: to instructions, each one's labels opened too; and how long they are at most.
-/
import Derived.Test.YtknnkmakfcfnjaaDoorInsMem
import Derived.Test.YtknnkmakfcfnjaaDoorOpen
import Derived.Deep.Slices
import Derived.Deep.Fields
import Derived.ChangeSame
import Derived.SizedLaws
import Derived.Test.YtknnkmakfcfnjaaDoorInsM
namespace Go.Proofs.YtknnkmakfcfnjaaDoor
open Go.RowKit Ins
open Go.ChangeShapes Go.WideShapes Go.ChangeAt Go.Deep
noncomputable def fsI : Array Field := match Tryd.prog.underlying 41 with
  | some (.struct fs) => fs
  | _ => #[]
theorem o_undIs : Tryd.prog.underlying 22 = some (.slice 41) := by kernel_rfl
theorem o_undI : Tryd.prog.underlying 41 = some (.struct fsI) := by kernel_rfl
theorem o_und24s : Tryd.prog.underlying 39 = some (.slice 38) := by kernel_rfl
theorem o_und23u : Tryd.prog.underlying 38 = some (.int .u32) := by kernel_rfl
theorem o_und2i : Tryd.prog.underlying 2 = some (.int .i64) := by kernel_rfl
theorem o_cells23 : Tryd.prog.cellsOf 38 = 1 := by kernel_rfl
theorem o_cellsI : Tryd.prog.cellsOf 41 = 5 := by kernel_rfl
theorem o_oneI : oneCellFields Tryd.prog fsI = true := by kernel_rfl
theorem o_sizeFs : fsI.size = 5 := by kernel_rfl
theorem o_typesFs : fsI.toList.map (·.type) = [5, 38, 38, 2, 39] := by kernel_rfl
theorem o_bytesI : Tryd.prog.bytesOf 41 = 48 := by kernel_rfl
theorem o_bytes23 : Tryd.prog.bytesOf 38 = 4 := by kernel_rfl
theorem fieldI (j : Nat) (t : TypeId) (h : [5, 38, 38, 2, 39][j]? = some t) : ∃ f, fsI[j]? = some f ∧ f.type = t := by
  rw [← o_typesFs, List.getElem?_map] at h
  cases hf : fsI.toList[j]? with
  | none => rw [hf] at h; cases h
  | some f =>
    rw [hf] at h
    exact ⟨f, by rw [← Array.getElem?_toList]; exact hf, Option.some.inj h⟩
theorem exists_list {α : Type} {E : Nat → α → Prop} : ∀ (n : Nat), (∀ i, i < n → ∃ x, E i x) → ∃ xs : List α, xs.length = n ∧ ∀ i x, xs[i]? = some x → E i x
  | 0, _ => ⟨[], rfl, fun i x h => by simp at h⟩
  | n + 1, h => by
    obtain ⟨xs, h1, h2⟩ := exists_list n (fun i hi => h i (by omega))
    obtain ⟨x, hx⟩ := h n (by omega)
    refine ⟨xs ++ [x], by simp [h1], fun i y hy => ?_⟩
    by_cases hi : i < n
    · rw [List.getElem?_append_left (by omega)] at hy
      exact h2 i y hy
    · rw [List.getElem?_append_right (by omega)] at hy
      have e : i - xs.length = 0 := by
        rcases Nat.eq_zero_or_pos (i - xs.length) with h | h
        · exact h
        · rw [List.getElem?_eq_none (by simp; omega)] at hy; cases hy
      rw [e] at hy
      obtain rfl : x = y := Option.some.inj hy
      obtain rfl : i = n := by omega
      exact hx
theorem weightsAll_mem {H : Type} {P : Program} {e : TypeId} : ∀ {ds : List (DataW H)} {d : DataW H} {n : Nat}, d ∈ ds → n ∈ d.weights P e → n ∈ DataW.weightsAll P e ds
  | d0 :: ds, d, n, hd, hn => by
    simp only [DataW.weightsAll, List.mem_append]
    rcases List.mem_cons.1 hd with rfl | hd
    · exact .inl hn
    · exact .inr (weightsAll_mem hd hn)
set_option maxRecDepth 100000
theorem spot_none {w : World} {a : Addr} {v : Value} (h : w.cell? a = some v) : a.spot = none := by
  unfold World.cell? at h
  split at h
  · split at h
    · cases h
    · rename_i hs
      cases ha : a.spot with
      | none => rfl
      | some x => rw [ha] at hs; simp at hs
  · cases h
theorem add_mk (g o k : Nat) : (⟨g, o, none⟩ : Addr).add k = ⟨g, o + k, none⟩ := by
  unfold Addr.add
  split
  · rename_i h0; subst h0; rfl
  · rfl
theorem bulk_one {H : Type} (d : DataW H) : 1 ≤ Rows.uptoBulk d := by
  cases d with
  | lit l => cases l <;> simp [Rows.uptoBulk]
  | nil => simp [Rows.uptoBulk]
  | ptr d => simp [Rows.uptoBulk]
  | slice elems spare => simp [Rows.uptoBulk]
  | agg parts => simp [Rows.uptoBulk]
  | iface t d => simp [Rows.uptoBulk]
  | map entries => simp [Rows.uptoBulk]
  | held h => simp [Rows.uptoBulk]
theorem bulk_len {H : Type} (l : List (DataW H)) : l.length ≤ Rows.uptoBulkAll l := by
  induction l with
  | nil => simp [Rows.uptoBulkAll]
  | cons x r ih => have := bulk_one x; simp only [Rows.uptoBulkAll, List.length_cons]; omega
theorem tot_mem : ∀ {xs : List I} {x : I}, x ∈ xs → x.l.length + 5 ≤ tot xs
  | y :: xs, x, h => by
    simp only [tot]
    rcases List.mem_cons.1 h with rfl | h
    · omega
    · have := tot_mem h; omega
/-- What instructions have together is at most what their readings hold. -/
theorem tot_bulk {H : Type} : ∀ (xs : List I) (ds : List (DataW H)), xs.length = ds.length → (∀ (k : Nat) x d, xs[k]? = some x → ds[k]? = some d → x.l.length + 5 ≤ Rows.uptoBulk d) → tot xs ≤ Rows.uptoBulkAll ds
  | [], _, _, _ => by simp [tot]
  | x :: xs, [], h, _ => by simp at h
  | x :: xs, d :: ds, h, hk => by
    have h1 := tot_bulk xs ds (by simpa using h) (fun k y e h1 h2 => hk (k + 1) y e (by simpa using h1) (by simpa using h2))
    have h2 := hk 0 x d rfl rfl
    simp only [tot, Rows.uptoBulkAll]
    omega
section
variable {H : Type} {enc : TypeId × Value → H} {W : World}
/-- Labels that came in. -/
theorem open_labels {n : Nat} {v : Value} {y : DataW H × List MemPlace} (h : DataW.trod enc Tryd.prog W 0 (fun _ => true) true n 39 [v] = some y) (hs : ∀ k ∈ y.1.weights Tryd.prog 39, k ≤ reachBytes) :
    ∃ (A : Option Addr) (c : Nat) (l : List Nat), v = .slice A l.length c ∧ l.length ≤ c ∧ c ≤ maxLen ∧ l.length ≤ 140737488355328 ∧ (∀ x ∈ l, x < 4294967296) ∧ HasU W (· < W.heap.size) A l ∧ l.length ≤ Rows.uptoBulk y.1 := by
  rcases open_ints o_und24s o_und23u o_cells23 h with ⟨hcs, rfl⟩ | ⟨a, len, cap, zs, hcs, _, hl, hm, hz, rfl, hcell, hwz⟩
  · obtain rfl : v = .slice none 0 0 := by simpa using hcs
    exact ⟨none, 0, [], rfl, Nat.le_refl _, by unfold maxLen; omega, by simp, by simp, HasU.nil _ _ _, by simp⟩
  · obtain rfl : v = .slice (some a) len cap := by simpa using hcs
    simp only [if_true] at hz
    have hlen : ((zs.take len).map Int.toNat).length = len := by simp; omega
    have hw := hs ((len + (cap - len)) * 4) (by
      simp only [DataW.weights, o_und24s, o_bytes23, List.mem_cons]
      left
      simp [lits]
      omega)
    have hrb := reachBytes_lt
    refine ⟨some a, cap, (zs.take len).map Int.toNat, by rw [hlen], by omega, hm, by omega, ?_, ?_, ?_⟩
    rotate_left 2
    · have h1 := bulk_len (H := H) (lits .u32 (zs.take len))
      have h2 : (lits (H := H) .u32 (zs.take len)).length = (zs.take len).length := by simp [lits]
      simp only [Rows.uptoBulk, List.length_map]
      omega
    · intro x hx
      obtain ⟨z, hz1, rfl⟩ := List.mem_map.1 hx
      have hr := bounds_u32 (hwz z (List.mem_of_mem_take hz1))
      omega
    · intro k x hk
      rw [List.getElem?_map, List.getElem?_take] at hk
      split at hk
      case isFalse => simp at hk
      case isTrue hkl =>
        have hkz : k < zs.length := by omega
        rw [List.getElem?_eq_getElem hkz] at hk
        simp only [Option.map_some, Option.some.injEq] at hk
        have hc0 := hcell 0 (by omega)
        have hc := hcell k hkz
        rw [List.getD_eq_getElem?_getD, List.getElem?_eq_getElem hkz, Option.getD_some] at hc
        have hr := bounds_u32 (hwz zs[k] (List.getElem_mem hkz))
        have hsp := spot_none hc0
        obtain ⟨g, o, sp⟩ := a
        obtain rfl : sp = none := by simpa [Addr.add] using hsp
        refine ⟨g, o, rfl, cell_lt hc0, ?_⟩
        rw [add_mk] at hc
        rw [hc, ← hk]
        congr 2
        omega
theorem bytes_nil {n c : Nat} {d : DataW H} {p : List MemPlace} (h : DataW.Trod enc Tryd.prog W 0 (fun _ => true) true 47 (.slice none n c) d p) : c = 0 := by
  obtain ⟨fuel, hf⟩ := h
  rcases open_ints und22 und5 cellsU8 hf with ⟨hcs, _⟩ | ⟨a, len, cap, zs, hcs, _⟩
  · simp [Value.cells] at hcs
    exact hcs.2
  · simp [Value.cells] at hcs
/-- An instruction that came in, out of its five cells. -/
theorem open_cells {n : Nat} {cs : List Value} {y : DataW H × List MemPlace} (h : DataW.trod enc Tryd.prog W 0 (fun _ => true) true n 41 cs = some y) (hs : ∀ k ∈ y.1.weights Tryd.prog 41, k ≤ reachBytes) :
    ∃ (A : Option Addr) (c : Nat) (x : I), cs = insCells x A c ∧ x.wf ∧ x.l.length ≤ c ∧ c ≤ maxLen ∧ x.l.length ≤ 140737488355328 ∧ HasU W (· < W.heap.size) A x.l ∧ x.l.length + 5 ≤ Rows.uptoBulk y.1 := by
  obtain ⟨ys, n', _, rfl, hcl, hyl, hf⟩ := DataW.trod_struct o_undI h
  rw [o_cellsI] at hcl
  rw [o_sizeFs] at hyl
  obtain ⟨f0, hf0, ht0⟩ := fieldI 0 _ rfl
  obtain ⟨f1, hf1, ht1⟩ := fieldI 1 _ rfl
  obtain ⟨f2, hf2, ht2⟩ := fieldI 2 _ rfl
  obtain ⟨f3, hf3, ht3⟩ := fieldI 3 _ rfl
  obtain ⟨f4, hf4, ht4⟩ := fieldI 4 _ rfl
  obtain ⟨o0, k0⟩ := hone_of o_oneI 0 f0 hf0
  obtain ⟨o1, k1⟩ := hone_of o_oneI 1 f1 hf1
  obtain ⟨o2, k2⟩ := hone_of o_oneI 2 f2 hf2
  obtain ⟨o3, k3⟩ := hone_of o_oneI 3 f3 hf3
  obtain ⟨o4, k4⟩ := hone_of o_oneI 4 f4 hf4
  match cs, hcl with
  | [c0, c1, c2, c3, c4], _ =>
    match ys, hyl with
    | [y0, y1, y2, y3, y4], _ =>
      have g0 := hf 0 f0 hf0
      have g1 := hf 1 f1 hf1
      have g2 := hf 2 f2 hf2
      have g3 := hf 3 f3 hf3
      have g4 := hf 4 f4 hf4
      rw [o0, k0, ht0] at g0
      rw [o1, k1, ht1] at g1
      rw [o2, k2, ht2] at g2
      rw [o3, k3, ht3] at g3
      rw [o4, k4, ht4] at g4
      obtain ⟨m0, e0, _, w0⟩ := DataW.trod_int und5 g0
      obtain ⟨m1, e1, _, w1⟩ := DataW.trod_int o_und23u g1
      obtain ⟨m2, e2, _, w2⟩ := DataW.trod_int o_und23u g2
      obtain ⟨m3, e3, _, w3⟩ := DataW.trod_int o_und2i g3
      obtain rfl : c0 = .int .u8 m0 := by simpa using e0
      obtain rfl : c1 = .int .u32 m1 := by simpa using e1
      obtain rfl : c2 = .int .u32 m2 := by simpa using e2
      obtain rfl : c3 = .int .i64 m3 := by simpa using e3
      have b0 := bounds_u8 w0
      have b1 := bounds_u32 w1
      have b2 := bounds_u32 w2
      have b3 := bounds_i64 w3
      have g4' : DataW.trod enc Tryd.prog W 0 (fun _ => true) true n' 39 [c4] = some y4 := g4
      obtain ⟨A, c, l, rfl, hl1, hl2, hl3, hl4, hU, hbk⟩ := open_labels g4' (fun k hk => hs k (by
        simp only [DataW.weights, o_undI, o_typesFs, List.map_cons, List.map_nil, DataW.weightsEach, List.mem_append]
        simp [hk]))
      refine ⟨A, c, ⟨m0.toNat, m1.toNat, m2.toNat, m3, l⟩, ?_, ⟨by simp only; omega, by simp only; omega, by simp only; omega, b3.1, b3.2, hl4⟩, hl1, hl2, hl3, hU, ?_⟩
      rotate_left 1
      · have q0 := bulk_one y0.1
        have q1 := bulk_one y1.1
        have q2 := bulk_one y2.1
        have q3 := bulk_one y3.1
        simp only [List.map_cons, List.map_nil, Rows.uptoBulk, Rows.uptoBulkAll]
        omega
      simp only [insCells]
      rw [Int.toNat_of_nonneg b0.1, Int.toNat_of_nonneg b1.1, Int.toNat_of_nonneg b2.1]
/-- A slice of instructions that came in, with its capacity. -/
theorem open_instrsC {base : Nat} {v : Value} {d : DataW H} {p : List MemPlace} (hval : Value.okWide Tryd.prog W .any base 22 v) (h : DataW.Trod enc Tryd.prog W 0 (fun _ => true) true 22 v d p) (hs : ∀ k ∈ d.weights Tryd.prog 22, k ≤ reachBytes) :
    ∃ (A : Option Addr) (n c : Nat) (xs : List I), v = .slice A n c ∧ n = xs.length ∧ n ≤ 140737488355328 ∧ (∀ x ∈ xs, x.l.length ≤ 140737488355328) ∧ HasI W (· < W.heap.size) A xs ∧ tot xs ≤ Rows.uptoBulk d ∧ n ≤ c ∧ c ≤ 140737488355328 ∧ (A = none → c = 0) := by
  obtain ⟨a1, len, cap, rfl⟩ := okWide_slice o_undIs hval
  obtain ⟨fuel, hf⟩ := h
  have hrb := reachBytes_lt
  rcases open_slice o_undIs hf with ⟨hcs, hx⟩ | ⟨a, len', cap', m, n', D, Pl, hcs, _, hl, hm, hmm, hx, hi⟩
  · simp [Value.cells] at hcs
    obtain ⟨rfl, rfl, rfl⟩ := hcs
    exact ⟨none, 0, 0, [], rfl, rfl, by omega, by simp, HasI.nil _ _ _, by simp [tot], Nat.le_refl _, by omega, fun _ => rfl⟩
  · simp [Value.cells] at hcs
    obtain ⟨rfl, rfl, rfl⟩ := hcs
    simp only [if_true] at hmm
    simp only [Prod.mk.injEq] at hx
    obtain ⟨rfl, _⟩ := hx
    have hw := hs ((len + (m - len)) * 48) (by
      simp only [DataW.weights, o_undIs, o_bytesI, List.mem_cons]
      left
      simp)
    have hE : ∀ i, i < len → ∃ x : I, ∃ (A : Option Addr) (c : Nat), x.wf ∧ x.l.length ≤ c ∧ c ≤ maxLen ∧ x.l.length ≤ 140737488355328 ∧ HasU W (· < W.heap.size) A x.l ∧ x.l.length + 5 ≤ Rows.uptoBulk (D i) ∧ ∀ (j : Nat) (u : Value), (insCells x A c)[j]? = some u → W.cell? ((a.add (i * 5)).add j) = some u := by
      intro i hil
      obtain ⟨cs', hc, ht⟩ := hi i (by omega)
      rw [o_cellsI] at hc
      obtain ⟨_, hcl, hat⟩ := World.cells?_some hc
      obtain ⟨A, c, x, hcx, h1, h2, h3, h4, h5, h6⟩ := open_cells ht (fun k hk => hs k (by
        simp only [DataW.weights, o_undIs, List.mem_cons, List.mem_append]
        right; left
        exact weightsAll_mem (List.mem_map.2 ⟨i, List.mem_range.2 hil, rfl⟩) hk))
      refine ⟨x, A, c, h1, h2, h3, h4, h5, h6, fun j u hj => ?_⟩
      have hj5 : j < 5 := by
        have := (List.getElem?_eq_some_iff.1 hj).1
        simpa [insCells] using this
      rw [hat j hj5, hcx]
      exact hj
    obtain ⟨xs, hxl, hxs⟩ := exists_list len hE
    refine ⟨some a, len, cap, xs, rfl, hxl.symm, by omega, ?_, ?_, ?_, hl, by omega, fun e => by cases e⟩
    rotate_left 2
    · have h1 := tot_bulk xs ((List.range len).map D) (by simp [hxl]) (fun k x d hk hd => by
        obtain ⟨_, _, _, _, _, _, _, h, _⟩ := hxs k x hk
        have hkl : k < len := by
          have := (List.getElem?_eq_some_iff.1 hk).1
          omega
        rw [List.getElem?_map, List.getElem?_range hkl] at hd
        obtain rfl : D k = d := by simpa using hd
        exact h)
      simp only [Rows.uptoBulk]
      omega
    · intro x hx
      obtain ⟨k, hk⟩ := List.mem_iff_getElem?.1 hx
      obtain ⟨_, _, _, _, _, h, _⟩ := hxs k x hk
      exact h
    · intro k x hk
      obtain ⟨A, c, h1, h2, h3, _, h5, _, h6⟩ := hxs k x hk
      have hpos : 0 < len := by
        have := (List.getElem?_eq_some_iff.1 hk).1
        omega
      obtain ⟨x0, A0, c0, _, _, _, _, _, _, h0⟩ := hE 0 hpos
      have hc0 := h0 0 _ rfl
      have hsp := spot_none hc0
      obtain ⟨g, o, sp⟩ := a
      obtain rfl : sp = none := by simpa [Addr.add] using hsp
      refine ⟨g, o, A, c, rfl, ?_, h1, h2, h3, h5, fun j u hj => ?_⟩
      · have := cell_lt hc0
        simpa [Addr.add] using this
      · have := h6 j u hj
        rwa [add_mk, add_mk] at this
/-- A slice of instructions that came in. -/
theorem open_instrs {base : Nat} {v : Value} {d : DataW H} {p : List MemPlace} (hval : Value.okWide Tryd.prog W .any base 22 v) (h : DataW.Trod enc Tryd.prog W 0 (fun _ => true) true 22 v d p) (hs : ∀ k ∈ d.weights Tryd.prog 22, k ≤ reachBytes) :
    ∃ (A : Option Addr) (n c : Nat) (xs : List I), v = .slice A n c ∧ n = xs.length ∧ n ≤ 140737488355328 ∧ (∀ x ∈ xs, x.l.length ≤ 140737488355328) ∧ HasI W (· < W.heap.size) A xs ∧ tot xs ≤ Rows.uptoBulk d := by
  obtain ⟨A, n, c, xs, h1, h2, h3, h4, h5, h6, _⟩ := open_instrsC hval h hs
  exact ⟨A, n, c, xs, h1, h2, h3, h4, h5, h6⟩
/-- A single instruction that came in. -/
theorem open_one {base : Nat} {v : Value} {d : DataW H} {p : List MemPlace} (hval : Value.okWide Tryd.prog W .any base 41 v) (h : DataW.Trod enc Tryd.prog W 0 (fun _ => true) true 41 v d p) (hs : ∀ k ∈ d.weights Tryd.prog 41, k ≤ reachBytes) :
    ∃ (x : I) (A : Option Addr) (c : Nat), v = insVal x A c ∧ x.wf ∧ x.l.length ≤ c ∧ c ≤ maxLen ∧ x.l.length ≤ 140737488355328 ∧ HasU W (· < W.heap.size) A x.l ∧ x.l.length + 5 ≤ Rows.uptoBulk d := by
  obtain ⟨cs, rfl, _⟩ := okWide_struct o_undI hval
  obtain ⟨fuel, hf⟩ := h
  obtain ⟨A, c, x, hcs, h1, h2, h3, h4, h5, h6⟩ := open_cells hf hs
  refine ⟨x, A, c, ?_, h1, h2, h3, h4, h5, h6⟩
  unfold insVal
  rw [← hcs]
  simp [Value.cells]
end
end Go.Proofs.YtknnkmakfcfnjaaDoor
