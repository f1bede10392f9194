/-
  The walk over SpaceRow, other kinds. (gen/space/law3.py)
-/
import Derived.Test.YtgnbkfkiigcdgaaSpKnown2
import Derived.Test.YtgnbkfkiigcdgaaSpMore
namespace Go.Proofs.Ytgnbkfkiigcdgaa
open Go.RowKit Ins Bin Sp
set_option maxRecDepth 100000 in
set_option maxHeartbeats 40000000 in
theorem spaceRowX_any (m : M) (v1 v2 v3 v4 v5 v6 v7 v8 v9 v10 : Value) (i : Nat) (_hi : i < 4294967296) (k : Nat) (hk : k < 256) (hk3 : 3 < k) (w : World) (hM : RepM w (· < w.heap.size) m v1 v2 v3 v4 v5 v6 v7 v8 v9 v10) (hB : BigM m) :
    Calls Try.prog 5 #[.agg (modCells m v1 v2 v3 v4 v5 v6 v7 v8 v9 v10), .int .u32 (i : Int), .int .u8 (k : Int)] w fun e w' => e = .returned (.bool true) ∧ Below w.heap.size w w' := by
  have HIM : Hid (∀ W, Below w.heap.size w W → SliceV W (· < W.heap.size) m.imports v2) := Lib.hid (fun W hb => (hM.grow hb).imports)
  obtain ⟨A1, c1, rfl, _⟩ := hM.types
  obtain ⟨A2, c2, rfl, _⟩ := hM.imports
  obtain ⟨n1, hn1⟩ : ∃ n, m.types.length = n := ⟨_, rfl⟩
  obtain ⟨n2, hn2⟩ : ∃ n, m.imports.length = n := ⟨_, rfl⟩
  have hN2 := Lib.hid hn2
  have HONE : Hid (∀ (hs : Bool) (st : Int), (#[.slice A1 n1 c1, .slice A2 n2 c2, v3, v4, v5, v6, v7, .bool hs, .int .u32 st, v8, v9, v10] : Array Value).all (·.oneCell') = true) := Lib.hid (by
    obtain ⟨_, _, rfl, _⟩ := hM.funcs
    obtain ⟨_, _, rfl, _⟩ := hM.tables
    obtain ⟨_, _, rfl, _⟩ := hM.mems
    obtain ⟨_, _, rfl, _⟩ := hM.globals
    obtain ⟨_, _, rfl, _⟩ := hM.exports
    obtain ⟨_, _, rfl, _⟩ := hM.elems
    obtain ⟨_, _, rfl, _⟩ := hM.codes
    obtain ⟨_, _, rfl, _⟩ := hM.datas
    intro hs st
    simp [Value.oneCell'])
  have hft : ∀ t ∈ funs m, t < 4294967296 := fun t ht => by
    unfold funs at ht
    rcases List.mem_append.1 ht with h | h
    · obtain ⟨x, hx, rfl⟩ := List.mem_map.1 h
      have hx' := (List.mem_filter.1 hx).1
      obtain ⟨_, _, _, _, _, _, hL⟩ := hM.imports
      obtain ⟨j, hj⟩ := List.mem_iff_getElem?.1 hx'
      obtain ⟨_, _, _, _, _, h5, _⟩ := imp_at hL hj
      exact h5
    · obtain ⟨_, _, _, _, _, _, hL⟩ := hM.funcs
      obtain ⟨j, hj⟩ := List.mem_iff_getElem?.1 h
      obtain ⟨_, _, _, _, _, h5⟩ := nat_at hL hj
      exact h5
  generalize hcs : modCells m (.slice A1 m.types.length c1) (.slice A2 m.imports.length c2) v3 v4 v5 v6 v7 v8 v9 v10 = cs
  have HG : Hid (∀ W, Below w.heap.size w W → Calls Try.prog 7 #[.agg cs] W fun e w' => ∃ g : Bool, e = .returned (.bool g) ∧ Below W.heap.size W w' ∧ (g = false → Few m ∧ m.imports.length ≤ 3000)) := Lib.hid (fun W hb => by
    subst hcs
    exact rgreat_any m _ _ _ _ _ _ _ _ _ _ W (hM.grow hb) hB)
  unfold modCells at hcs
  rw [hn1, hn2] at hcs
  rw [hn2] at HIM
  generalize m.hasStart = hs at hcs
  generalize (m.start : Int) = st at hcs
  subst hcs
  clear hn1 hn2
  have HX0 := Lib.hid (heap_alloc_new w (.cells #[.slice A1 n1 c1, .slice A2 n2 c2, v3, v4, v5, v6, v7, .bool hs, .int .u32 st, v8, v9, v10] 33))
  have HB0 : Hid (Below w.heap.size w (w.alloc (.cells #[.slice A1 n1 c1, .slice A2 n2 c2, v3, v4, v5, v6, v7, .bool hs, .int .u32 st, v8, v9, v10] 33))) := Lib.hid ((Below.refl _ _).alloc (Nat.le_refl _) _)
  go_enter Try.func5, Try.ntmps5
  go_upto_region 1 with fail
  generalize w.alloc (.cells #[.slice A1 n1 c1, .slice A2 n2 c2, v3, v4, v5, v6, v7, .bool hs, .int .u32 st, v8, v9, v10] 33) = w0 at HX0 HB0 ⊢
  obtain ⟨X, hX⟩ : ∃ X, w.heap.size = X := ⟨_, rfl⟩
  rw [hX] at HX0
  rw [hX]
  clear hX
  have HALL := Lib.hid (fun W (hW : Below w0.heap.size w0 W) => cells12 HX0.out hW)
  have HCUR := HB0
  clear HX0 HB0
  have h3 : (3 : Int) < (k : Int) := by omega
  go_upto_region 3 with (go_at_call 6; refine (known8 _).mono ?_; rintro e w1 ⟨rfl, hb⟩; have HCUR := Lib.hid (HCUR.out.trans (hb.mono HCUR.out.size)); have HALL := Lib.hid (fun W (hW : Below _ _ W) => HALL.out W (hb.trans (hW.mono hb.size))); clear hb)
  obtain ⟨a0, a1, a2, a3, a4, a5, a6, a7, a8, a9, a10, a11⟩ := HALL.out _ (Below.refl _ _)
  go_wp2_with fail
  refine (HG.out _ HCUR.out).mono ?_
  rintro e w2 ⟨g, rfl, hb, _⟩
  have HCUR := Lib.hid (HCUR.out.trans (hb.mono HCUR.out.size))
  clear hb a0 a1 a2 a3 a4 a5 a6 a7 a8 a9 a10 a11
  cases g
  · go_wp2_with fail
    go_ret
    exact ⟨rfl, HCUR.out⟩
  · go_wp2_with fail
    go_ret
    exact ⟨rfl, HCUR.out⟩
end Go.Proofs.Ytgnbkfkiigcdgaa
