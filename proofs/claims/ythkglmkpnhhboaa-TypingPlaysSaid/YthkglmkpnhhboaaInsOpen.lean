/-
  How a slice of instructions that came in is opened: to instructions, each one's labels opened too; and how long they are at most.
-/
import Derived.Test.YthkglmkpnhhboaaInsMem
import Derived.Test.YthkglmkpnhhboaaOpen
import Derived.Deep.Slices
import Derived.Deep.Fields
import Derived.ChangeSame
import Derived.SizedLaws
import Derived.Test.YthkglmkpnhhboaaInsM
namespace Go.Proofs.Ythkglmkpnhhboaa
open Go.RowKit Ins
open Go.ChangeShapes Go.WideShapes Go.ChangeAt Go.Deep
theorem o_und23u : Try.prog.underlying 30 = some (.int .u32) := by kernel_rfl
theorem o_und2i : Try.prog.underlying 2 = some (.int .i64) := by kernel_rfl
theorem o_cells23 : Try.prog.cellsOf 30 = 1 := by kernel_rfl
theorem o_bytes23 : Try.prog.bytesOf 30 = 4 := by kernel_rfl
theorem exists_list {α : Type} {E : Nat → α → Prop} : ∀ (n : Nat), (∀ i, i < n → ∃ x, E i x) → ∃ xs : List α, xs.length = n ∧ ∀ i x, xs[i]? = some x → E i x
  | 0, _ => ⟨[], rfl, fun i x h => by simp at h⟩
  | n + 1, h => by
    obtain ⟨xs, h1, h2⟩ := exists_list n (fun i hi => h i (by omega))
    obtain ⟨x, hx⟩ := h n (by omega)
    refine ⟨xs ++ [x], by simp [h1], fun i y hy => ?_⟩
    by_cases hi : i < n
    · rw [List.getElem?_append_left (by omega)] at hy
      exact h2 i y hy
    · rw [List.getElem?_append_right (by omega)] at hy
      have e : i - xs.length = 0 := by
        rcases Nat.eq_zero_or_pos (i - xs.length) with h | h
        · exact h
        · rw [List.getElem?_eq_none (by simp; omega)] at hy; cases hy
      rw [e] at hy
      obtain rfl : x = y := Option.some.inj hy
      obtain rfl : i = n := by omega
      exact hx
theorem weightsAll_mem {H : Type} {P : Program} {e : TypeId} : ∀ {ds : List (DataW H)} {d : DataW H} {n : Nat}, d ∈ ds → n ∈ d.weights P e → n ∈ DataW.weightsAll P e ds
  | d0 :: ds, d, n, hd, hn => by
    simp only [DataW.weightsAll, List.mem_append]
    rcases List.mem_cons.1 hd with rfl | hd
    · exact .inl hn
    · exact .inr (weightsAll_mem hd hn)
set_option maxRecDepth 100000
theorem spot_none {w : World} {a : Addr} {v : Value} (h : w.cell? a = some v) : a.spot = none := by
  unfold World.cell? at h
  split at h
  · split at h
    · cases h
    · rename_i hs
      cases ha : a.spot with
      | none => rfl
      | some x => rw [ha] at hs; simp at hs
  · cases h
theorem add_mk (g o k : Nat) : (⟨g, o, none⟩ : Addr).add k = ⟨g, o + k, none⟩ := by
  unfold Addr.add
  split
  · rename_i h0; subst h0; rfl
  · rfl
theorem bulk_one {H : Type} (d : DataW H) : 1 ≤ Rows.uptoBulk d := by
  cases d with
  | lit l => cases l <;> simp [Rows.uptoBulk]
  | nil => simp [Rows.uptoBulk]
  | ptr d => simp [Rows.uptoBulk]
  | slice elems spare => simp [Rows.uptoBulk]
  | agg parts => simp [Rows.uptoBulk]
  | iface t d => simp [Rows.uptoBulk]
  | map entries => simp [Rows.uptoBulk]
  | held h => simp [Rows.uptoBulk]
theorem bulk_len {H : Type} (l : List (DataW H)) : l.length ≤ Rows.uptoBulkAll l := by
  induction l with
  | nil => simp [Rows.uptoBulkAll]
  | cons x r ih => have := bulk_one x; simp only [Rows.uptoBulkAll, List.length_cons]; omega
theorem tot_mem : ∀ {xs : List I} {x : I}, x ∈ xs → x.l.length + 5 ≤ tot xs
  | y :: xs, x, h => by
    simp only [tot]
    rcases List.mem_cons.1 h with rfl | h
    · omega
    · have := tot_mem h; omega
/-- What instructions have together is at most what their readings hold. -/
theorem tot_bulk {H : Type} : ∀ (xs : List I) (ds : List (DataW H)), xs.length = ds.length → (∀ (k : Nat) x d, xs[k]? = some x → ds[k]? = some d → x.l.length + 5 ≤ Rows.uptoBulk d) → tot xs ≤ Rows.uptoBulkAll ds
  | [], _, _, _ => by simp [tot]
  | x :: xs, [], h, _ => by simp at h
  | x :: xs, d :: ds, h, hk => by
    have h1 := tot_bulk xs ds (by simpa using h) (fun k y e h1 h2 => hk (k + 1) y e (by simpa using h1) (by simpa using h2))
    have h2 := hk 0 x d rfl rfl
    simp only [tot, Rows.uptoBulkAll]
    omega
section
variable {H : Type} {enc : TypeId × Value → H} {W : World}
theorem bytes_nil {n c : Nat} {d : DataW H} {p : List MemPlace} (h : DataW.Trod enc Try.prog W 0 (fun _ => true) true 22 (.slice none n c) d p) : c = 0 := by
  obtain ⟨fuel, hf⟩ := h
  rcases open_ints und22 und5 cellsU8 hf with ⟨hcs, _⟩ | ⟨a, len, cap, zs, hcs, _⟩
  · simp [Value.cells] at hcs
    exact hcs.2
  · simp [Value.cells] at hcs
end
end Go.Proofs.Ythkglmkpnhhboaa
