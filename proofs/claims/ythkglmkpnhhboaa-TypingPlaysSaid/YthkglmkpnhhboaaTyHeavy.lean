/-
  Layer 9's heavy. (gen/typing/heavy.py)
-/
import Derived.Test.YthkglmkpnhhboaaTyDo
namespace Go.Proofs.Ythkglmkpnhhboaa
open Go.RowKit Ins Bin
set_option linter.unusedSimpArgs false in
set_option maxRecDepth 100000 in
set_option maxHeartbeats 4000000 in
theorem heavy_any (xs : List Do9) (A : Option Addr) (c : Nat) (w : World) (hA : HasL w (· < w.heap.size) A xs) (hl : xs.length ≤ 140737488355328) (hbig : ∀ x ∈ xs, x.l.length ≤ 140737488355328 ∧ x.ends.length ≤ 140737488355328) :
    Calls Try.prog 7 #[.slice A xs.length c] w fun e w' => ∃ b : Bool, e = .returned (.bool b) ∧ Below w.heap.size w w' ∧ (b = false → xs.length ≤ 300 ∧ ∀ x ∈ xs, x.l.length ≤ 2000 ∧ x.ends.length ≤ 2000) := by
  obtain ⟨n, hn⟩ : ∃ n, xs.length = n := ⟨_, rfl⟩
  rw [hn] at hl
  rw [hn]
  have HN := Lib.hid hn
  have HA := Lib.hid hA
  have HBG := Lib.hid hbig
  clear hn hA hbig
  go_enter Try.func7, Try.ntmps7
  go_wp2_with fail
  go_loopw [3, 8] (fun s i wr => ∃ (j : Nat) (z : Int), j ≤ n ∧ i = .int .i64 (j : Int) ∧ s = .int .i64 z ∧ 0 ≤ z ∧ z ≤ 2000 ∧ Hid (∀ (k : Nat) (x : Do9), xs[k]? = some x → k < j → x.l.length ≤ 2000 ∧ x.ends.length ≤ 2000) ∧ Hid (Below w.heap.size w wr)) (fun _ i _ => n - (intOf i).toNat)
  case atStart => exact ⟨0, 0, by omega, rfl, rfl, by omega, by omega, Lib.hid (fun k x _ h => by omega), Lib.hid (Below.refl _ _)⟩
  case round =>
    obtain ⟨j, z, hj, rfl, rfl, hz0, hz1, HS, HB⟩ := hrel
    by_cases hjn : j < n
    · obtain ⟨x, hx⟩ : ∃ x, xs[j]? = some x := ⟨_, List.getElem?_eq_getElem (by have := HN.out; omega)⟩
      obtain ⟨g, o, A1, c1, A2, c2, rfl, hc, hxn, _, _⟩ := do_at HA.out hx
      obtain ⟨k0, k1, k2, k3⟩ := hc wr HB.out
      obtain ⟨b1, b2⟩ := HBG.out x (List.mem_of_getElem? hx)
      have hji : (j : Int) < (n : Int) := by omega
      obtain ⟨wa, hwa⟩ : ∃ W, wr.alloc (.cells #[.int .i64 x.kind, .slice A1 x.l.length c1, .slice A2 x.ends.length c2, .int .u32 (x.n : Int)] 32) = W := ⟨_, rfl⟩
      have hx0 := heap_alloc_new wr (.cells #[.int .i64 x.kind, .slice A1 x.l.length c1, .slice A2 x.ends.length c2, .int .u32 (x.n : Int)] 32)
      rw [hwa] at hx0
      have HBA : Hid (Below w.heap.size w wa) := Lib.hid (by rw [← hwa]; exact HB.out.alloc HB.out.size _)
      obtain ⟨X, hX⟩ : ∃ X, wr.heap.size = X := ⟨_, rfl⟩
      rw [hX] at hx0
      have p1 : wa.cell? ⟨X, 1, none⟩ = some (.slice A1 x.l.length c1) := by rw [cell_of_row wa X 1 _ _ (0, 0) hx0]; rfl
      have p2 : wa.cell? ⟨X, 2, none⟩ = some (.slice A2 x.ends.length c2) := by rw [cell_of_row wa X 2 _ _ (0, 0) hx0]; rfl
      obtain ⟨n1, hn1⟩ : ∃ x', x.l.length = x' := ⟨_, rfl⟩
      obtain ⟨n2, hn2⟩ : ∃ x', x.ends.length = x' := ⟨_, rfl⟩
      rw [hn1] at k1 b1 p1
      rw [hn2] at k2 b2 p2
      have hwa' := hwa
      rw [hn1, hn2] at hwa'
      have HX := Lib.hid hx
      have HN1 := Lib.hid hn1
      have HN2 := Lib.hid hn2
      have HJ := Lib.hid hjn
      generalize x.kind = kd at *
      generalize x.n = xn at *
      clear hc hx hwa hx0 hn1 hn2 hjn hxn hj
      by_cases hgt : 2000 < z + ((n1 : Int) + (n2 : Int))
      · go_upto_region 5 with fail
        try simp only [hX]
        clear hX
        try rw [hwa']
        clear hwa'
        go_wp2_with fail
        go_ret
        exact ⟨true, rfl, HBA.out, fun h => by cases h⟩
      · have hgt2 : decide (2000 < z + ((n1 : Int) + (n2 : Int))) = false := decide_eq_false hgt
        have hle : z + ((n1 : Int) + (n2 : Int)) ≤ 2000 := by omega
        have HS2 : Hid (∀ (k : Nat) (x : Do9), xs[k]? = some x → k < j + 1 → x.l.length ≤ 2000 ∧ x.ends.length ≤ 2000) := Lib.hid (fun k y hy hk => by
          by_cases hkj : k < j
          · exact HS.out k y hy hkj
          · obtain rfl : k = j := by omega
            rw [HX.out] at hy
            injection hy with hy
            subst hy
            rw [HN1.out, HN2.out]
            omega)
        clear hgt
        go_upto_region 5 with fail
        try simp only [hX]
        clear hX
        try rw [hwa']
        clear hwa'
        go_wp2_with fail
        go_roundw
        case rel => exact ⟨j + 1, z + ((n1 : Int) + (n2 : Int)), by have := HJ.out; omega, by go_num, rfl, by omega, by omega, HS2, HBA⟩
        case measure => have := HJ.out; simp [intOf]; omega
    · obtain rfl : n = j := by omega
      have hli : decide ((n : Int) < (n : Int)) = false := decide_eq_false (by omega)
      have HR : Hid (∀ x ∈ xs, x.l.length ≤ 2000 ∧ x.ends.length ≤ 2000) := Lib.hid (fun x hx => by
        obtain ⟨k, hk⟩ := List.mem_iff_getElem?.1 hx
        exact HS.out k x hk (by have := (List.getElem?_eq_some_iff.1 hk).1; have := HN.out; omega))
      go_wp2_with fail
      go_ret
      exact ⟨_, rfl, HB.out, fun h => ⟨by
        have := of_decide_eq_false h
        omega, HR.out⟩⟩
end Go.Proofs.Ythkglmkpnhhboaa
