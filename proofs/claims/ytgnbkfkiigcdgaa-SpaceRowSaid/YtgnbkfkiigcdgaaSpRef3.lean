/-
  The document's types of functions, by number. (gen/space/ref3.py)
-/
import Derived.Test.YtgnbkfkiigcdgaaSpRef2
import Derived.Deep.CutRange
namespace Go.Proofs.Ytgnbkfkiigcdgaa
open Go.RowKit Ins Bin Sp
def FuncPost (o : Option FT) (w : World) (e : Ending) (w' : World) : Prop := ∃ u v, e = .returned (.tuple #[.agg #[u, v], .bool o.isSome]) ∧ SliceV w' (· < w'.heap.size) (o.getD ⟨[], []⟩).params u ∧ SliceV w' (· < w'.heap.size) (o.getD ⟨[], []⟩).results v ∧ Below w.heap.size w w'
/-- The imported functions among the first j imports. -/
def fi (m : M) (j : Nat) : List Imp := (m.imports.take j).filter fun x => x.kind.toNat == 0
def fiT (m : M) (i j : Nat) : Nat := (((fi m j)[i]?).map (·.type)).getD 0
theorem fi_all {m : M} {j : Nat} (h : m.imports.length ≤ j) : fi m j = imps m 0 := take_all h
theorem fi_le (m : M) (j : Nat) : (fi m j).length ≤ j := take_le _ _ _
theorem fi_no {m : M} {j : Nat} {x : Imp} (hx : m.imports[j]? = some x) (h : ¬ x.kind.toNat = 0) : fi m (j + 1) = fi m j := take_no hx (by simp [h])
theorem fi_yes {m : M} {j : Nat} {x : Imp} (hx : m.imports[j]? = some x) (h : x.kind.toNat = 0) : fi m (j + 1) = fi m j ++ [x] := take_yes hx (by simp [h])
theorem fiT_new {m : M} {j i : Nat} {x : Imp} (hx : m.imports[j]? = some x) (h : x.kind.toNat = 0) (hq : (fi m j).length = i) : fiT m i (j + 1) = x.type := by
  unfold fiT
  rw [fi_yes hx h, List.getElem?_append_right (by omega), hq]
  simp
theorem fiT_old {m : M} {j i : Nat} {x : Imp} (hx : m.imports[j]? = some x) (h : x.kind.toNat = 0) (hq : ¬ (fi m j).length = i) : fiT m i (j + 1) = fiT m i j := by
  unfold fiT
  rw [fi_yes hx h]
  rcases Nat.lt_or_ge i (fi m j).length with h1 | h1
  · rw [List.getElem?_append_left h1]
  · rw [List.getElem?_append_right h1, List.getElem?_eq_none (by simp; omega), List.getElem?_eq_none h1]
theorem fiT_lt {m : M} {j i : Nat} (h : ∀ x ∈ m.imports, x.type < 4294967296) : fiT m i j < 4294967296 := by
  unfold fiT
  cases hx : (fi m j)[i]? with
  | none => simp
  | some x => simp; exact h x (List.mem_of_mem_take (List.mem_filter.1 (List.mem_of_getElem? hx)).1)
theorem ft_at {w : World} {S : Nat → Prop} {A : Option Addr} {xs : List FT} {k : Nat} {x : FT} (h : HasL w S A xs) (hx : xs[k]? = some x) : ∃ g o D1 d1 D2 d2, A = some ⟨g, o, none⟩ ∧ g < w.heap.size ∧ w.cell? ⟨g, o + k * 2, none⟩ = some (.slice D1 x.params.length d1) ∧ w.cell? ⟨g, o + k * 2 + 1, none⟩ = some (.slice D2 x.results.length d2) ∧ SliceV w S x.params (.slice D1 x.params.length d1) ∧ SliceV w S x.results (.slice D2 x.results.length d2) := by
  obtain ⟨g, o, cs, h1, _, h3, ⟨u, v, rfl, hu, hv⟩, h6⟩ := h k x hx
  have hu2 := hu
  have hv2 := hv
  obtain ⟨D1, d1, rfl, _⟩ := hu
  obtain ⟨D2, d2, rfl, _⟩ := hv
  exact ⟨g, o, D1, d1, D2, d2, h1, h3, h6 0 _ rfl, h6 1 _ rfl, hu2, hv2⟩
theorem nat_at {w : World} {S : Nat → Prop} {A : Option Addr} {xs : List Nat} {k : Nat} {x : Nat} (h : HasL w S A xs) (hx : xs[k]? = some x) : ∃ g o, A = some ⟨g, o, none⟩ ∧ g < w.heap.size ∧ w.cell? ⟨g, o + k, none⟩ = some (.int .u32 (x : Int)) ∧ x < 4294967296 := by
  obtain ⟨g, o, cs, h1, _, h3, ⟨rfl, hlt⟩, h6⟩ := h k x hx
  have e := h6 0 _ rfl
  rw [show Lay.size Nat = 1 from rfl, Nat.mul_one, Nat.add_zero] at e
  exact ⟨g, o, h1, h3, e, hlt⟩
set_option maxRecDepth 100000 in
set_option maxHeartbeats 4000000 in
theorem rfunc_any (m : M) (v1 v2 v3 v4 v5 v6 v7 v8 v9 v10 : Value) (w : World) (hM : RepM w (· < w.heap.size) m v1 v2 v3 v4 v5 v6 v7 v8 v9 v10) (hF : Few m) (i : Nat) (hi : i < 4294967296) :
    Calls Try.prog 10 #[.agg (modCells m v1 v2 v3 v4 v5 v6 v7 v8 v9 v10), .int .u32 (i : Int)] w fun e w' => FuncPost (func m i) w e w' := by
  obtain ⟨D, hu, hd⟩ := descOf des_sft
  have HU := Lib.hid hu
  have HD := Lib.hid hd
  clear hu hd
  have HIT : Hid (∀ x ∈ m.imports, x.type < 4294967296) := Lib.hid (fun x hx => by
    obtain ⟨_, _, _, _, _, _, hL⟩ := hM.imports
    obtain ⟨k, hk⟩ := List.mem_iff_getElem?.1 hx
    obtain ⟨_, _, _, _, _, h, _⟩ := imp_at hL hk
    exact h)
  obtain ⟨A1, c1, rfl, _, _, _, hL1⟩ := hM.types
  have HL1 := Lib.hid hL1
  obtain ⟨A2, c2, rfl, _, _, _, hL2⟩ := hM.imports
  have HL2 := Lib.hid hL2
  obtain ⟨A3, c3, rfl, _, _, _, hL3⟩ := hM.funcs
  have HL3 := Lib.hid hL3
  clear hM hL1 hL2 hL3
  generalize hcs : modCells m (.slice A1 m.types.length c1) (.slice A2 m.imports.length c2) (.slice A3 m.funcs.length c3) v4 v5 v6 v7 v8 v9 v10 = cs
  unfold modCells at hcs
  obtain ⟨n1, hn1⟩ : ∃ n, m.types.length = n := ⟨_, rfl⟩
  have HN1 := Lib.hid hn1
  rw [hn1] at hcs
  obtain ⟨n2, hn2⟩ : ∃ n, m.imports.length = n := ⟨_, rfl⟩
  have HN2 := Lib.hid hn2
  rw [hn2] at hcs
  obtain ⟨n3, hn3⟩ : ∃ n, m.funcs.length = n := ⟨_, rfl⟩
  have HN3 := Lib.hid hn3
  rw [hn3] at hcs
  generalize m.hasStart = hs at hcs
  generalize (m.start : Int) = st at hcs
  subst hcs
  have b1 : n1 ≤ 4000 := by rw [← hn1]; exact hF.types
  have b2 : n2 ≤ 4000 := by rw [← hn2]; exact hF.imports
  have b3 : n3 ≤ 4000 := by rw [← hn3]; exact hF.funcs
  clear hn1 hn2 hn3 hF
  have HX0 : Hid (((w.alloc (.cells #[.slice A1 n1 c1, .slice A2 n2 c2, .slice A3 n3 c3, v4, v5, v6, v7, .bool hs, .int .u32 st, v8, v9, v10] 33)).alloc (.cells #[.slice none 0 0, .slice none 0 0] 40)).heap[w.heap.size]? = some (.cells #[.slice A1 n1 c1, .slice A2 n2 c2, .slice A3 n3 c3, v4, v5, v6, v7, .bool hs, .int .u32 st, v8, v9, v10] 33 (0, 0))) := Lib.hid ((Below.heap_alloc _ _ _ (by simp)).trans (heap_alloc_new w _))
  have HZ0 : Hid (((w.alloc (.cells #[.slice A1 n1 c1, .slice A2 n2 c2, .slice A3 n3 c3, v4, v5, v6, v7, .bool hs, .int .u32 st, v8, v9, v10] 33)).alloc (.cells #[.slice none 0 0, .slice none 0 0] 40)).heap[w.heap.size + 1]? = some (.cells #[.slice none 0 0, .slice none 0 0] 40 (0, 0))) := Lib.hid (by have := heap_alloc_new (w.alloc (.cells #[.slice A1 n1 c1, .slice A2 n2 c2, .slice A3 n3 c3, v4, v5, v6, v7, .bool hs, .int .u32 st, v8, v9, v10] 33)) (.cells #[.slice none 0 0, .slice none 0 0] 40); simpa using this)
  have HB0 : Hid (Below w.heap.size w ((w.alloc (.cells #[.slice A1 n1 c1, .slice A2 n2 c2, .slice A3 n3 c3, v4, v5, v6, v7, .bool hs, .int .u32 st, v8, v9, v10] 33)).alloc (.cells #[.slice none 0 0, .slice none 0 0] 40))) := Lib.hid (((Below.refl _ _).alloc (Nat.le_refl _) _).alloc (by simp) _)
  go_enter Try.func10, Try.ntmps10
  go_upto_region 5 with fail
  generalize (w.alloc (.cells #[.slice A1 n1 c1, .slice A2 n2 c2, .slice A3 n3 c3, v4, v5, v6, v7, .bool hs, .int .u32 st, v8, v9, v10] 33)).alloc (.cells #[.slice none 0 0, .slice none 0 0] 40) = w0 at HX0 HZ0 HB0 ⊢
  obtain ⟨X, hX⟩ : ∃ X, w.heap.size = X := ⟨_, rfl⟩
  obtain ⟨Y, hY⟩ : ∃ Y, w.heap.size + 1 = Y := ⟨_, rfl⟩
  have y1 : w0.cell? ⟨X, 0, none⟩ = some (.slice A1 n1 c1) := by rw [← hX, cell_of_row w0 _ 0 _ _ (0, 0) HX0.out]; rfl
  have y2 : w0.cell? ⟨X, 1, none⟩ = some (.slice A2 n2 c2) := by rw [← hX, cell_of_row w0 _ 1 _ _ (0, 0) HX0.out]; rfl
  have y3 : w0.cell? ⟨X, 2, none⟩ = some (.slice A3 n3 c3) := by rw [← hX, cell_of_row w0 _ 2 _ _ (0, 0) HX0.out]; rfl
  rw [hY] at HZ0
  have hYw : Y < w0.heap.size := (Array.getElem?_eq_some_iff.1 HZ0.out).1
  have HYW := Lib.hid hYw
  clear hYw
  have HY : Hid (w.heap.size ≤ Y) := Lib.hid (by omega)
  simp only [hY]
  simp only [hX]
  clear hX hY
  go_loop [6, 7, 8, 9] (fun a t f i' => ∃ j : Nat, j ≤ n2 ∧ i' = .int .i64 (j : Int) ∧ a = .int .u64 ((fi m j).length : Int) ∧ t = .int .u64 (fiT m i j : Int) ∧ f = .bool (decide (i < (fi m j).length))) (fun _ _ _ i' => n2 - (intOf i').toNat)
  case atStart => exact ⟨0, Nat.zero_le _, rfl, rfl, rfl, rfl⟩
  case round =>
    obtain ⟨j, hj, rfl, rfl, rfl, rfl⟩ := hrel
    have hle := fi_le m j
    by_cases hlt : j < n2
    · have hlti : (j : Int) < (n2 : Int) := by omega
      obtain ⟨x, hx⟩ : ∃ x, m.imports[j]? = some x := ⟨_, List.getElem?_eq_getElem (by rw [HN2.out]; exact hlt)⟩
      obtain ⟨g, o, rfl, hg, _, hty, _, hc⟩ := imp_at HL2.out hx
      have k2 : w0.cell? ⟨g, o + j * 8 + 2, none⟩ = some (.int .u8 (x.kind.toNat : Int)) := (HB0.out.cell (p := ⟨g, o + j * 8 + 2, none⟩) hg).trans (hc 2 _ rfl)
      have k3 : w0.cell? ⟨g, o + j * 8 + 3, none⟩ = some (.int .u32 (x.type : Int)) := (HB0.out.cell (p := ⟨g, o + j * 8 + 3, none⟩) hg).trans (hc 3 _ rfl)
      have hxk := x.kind.toNat_lt
      obtain ⟨q, hqq⟩ : ∃ q, (fi m j).length = q := ⟨_, rfl⟩
      have HQ := Lib.hid hqq
      obtain ⟨T, hT⟩ : ∃ T, fiT m i j = T := ⟨_, rfl⟩
      have HT := Lib.hid hT
      have hTl : T < 4294967296 := by rw [← hT]; exact fiT_lt HIT.out
      by_cases hq : x.kind.toNat = 0
      · have hqe : ((x.kind.toNat : Int) == 0) = true := by simp [hq]
        have HS := Lib.hid (fi_yes hx hq)
        by_cases hqx : q = i
        · have HTN := Lib.hid (fiT_new hx hq (hqq.trans hqx))
          simp only [hqq, hT] at hle ⊢
          clear hqq hT hc hx hq
          subst hqx
          have hqx2 : ((q : Int) == (q : Int)) = true := by simp
          go_wp2
          go_round
          case rel => exact ⟨j + 1, by omega, by go_num, by rw [HS.out, List.length_append, HQ.out]; go_num, by rw [HTN.out], by rw [HS.out, List.length_append, HQ.out]; simp⟩
          case measure => simp [intOf]; omega
        · have HTN := Lib.hid (fiT_old (i := i) hx hq (by rw [hqq]; exact hqx))
          have hqx2 : ((q : Int) == (i : Int)) = false := by rw [beq_eq_false_iff_ne]; omega
          have HDE : Hid (decide (i < q + 1) = decide (i < q)) := Lib.hid (by simp only [decide_eq_decide]; omega)
          simp only [hqq, hT] at hle ⊢
          clear hqq hT hc hx hq hqx
          generalize hdq : decide (i < q) = dq at HDE ⊢
          clear hdq
          go_wp2
          go_round
          case rel => exact ⟨j + 1, by omega, by go_num, by rw [HS.out, List.length_append, HQ.out]; go_num, by rw [HTN.out, HT.out], by rw [HS.out, List.length_append, HQ.out]; exact congrArg Value.bool HDE.out.symm⟩
          case measure => simp [intOf]; omega
      · have hqe : ((x.kind.toNat : Int) == 0) = false := by rw [beq_eq_false_iff_ne]; omega
        have HS := Lib.hid (fi_no hx hq)
        have HTN : Hid (fiT m i (j + 1) = fiT m i j) := Lib.hid (by unfold fiT; rw [HS.out])
        simp only [hqq, hT] at hle ⊢
        clear hqq hT hc hx hq
        generalize hdq : decide (i < q) = dq
        have HDQ := Lib.hid hdq
        clear hdq
        go_wp2
        go_round
        case rel => exact ⟨j + 1, by omega, by go_num, by rw [HS.out, HQ.out], by rw [HTN.out, HT.out], by rw [HS.out, HQ.out]; exact congrArg Value.bool HDQ.out.symm⟩
        case measure => simp [intOf]; omega
    · have hlti : decide ((j : Int) < (n2 : Int)) = false := decide_eq_false (by omega)
      have hall : fi m j = imps m 0 := fi_all (by rw [HN2.out]; omega)
      have hTl : fiT m i j < 4294967296 := fiT_lt HIT.out
      have hTe : fiT m i j = (((imps m 0)[i]?).map (·.type)).getD 0 := by unfold fiT; rw [hall]
      have hni : (imps m 0).length ≤ 4000 := by rw [← hall]; omega
      rw [hall]
      obtain ⟨T, hT⟩ : ∃ T, fiT m i j = T := ⟨_, rfl⟩
      rw [hT] at hTl hTe ⊢
      obtain ⟨ni, hnn⟩ : ∃ ni, (imps m 0).length = ni := ⟨_, rfl⟩
      rw [hnn] at hni ⊢
      clear hall hle hT
      have HFU : ∀ (r : Option Nat), (funs m)[i]? = r → (decide (i < ni) = true → r = some T) ∧ (decide (i < ni) = false → r = m.funcs[i - ni]?) := fun r hr => by
        subst hr
        refine ⟨fun h => ?_, fun h => ?_⟩
        · have h' := of_decide_eq_true h
          have e : (funs m)[i]? = some _ := row_imp (by rw [hnn]; exact h')
          rw [e, hTe, List.getElem?_eq_getElem (by rw [hnn]; exact h')]
          rfl
        · have h' := of_decide_eq_false h
          unfold funs
          rw [row_own (by rw [hnn]; omega), hnn]
      have HFU2 := Lib.hid HFU
      have HT0 : Hid (¬ i < ni → T = 0) := Lib.hid (fun h => by rw [hTe, List.getElem?_eq_none (by omega)]; rfl)
      clear HFU hTe
      by_cases h : i < ni
      · have hr := (HFU2.out _ rfl).1 (decide_eq_true h)
        have HFN : Hid (func m i = m.types[T]?) := Lib.hid (by unfold func; rw [hr]; rfl)
        rw [decide_eq_true h]
        clear hr h
        cases hxt : m.types[T]? with
        | none =>
          have htn : (n1 : Int) ≤ (T : Int) := by have := List.getElem?_eq_none_iff.1 hxt; have := HN1.out; omega
          have htnn : n1 ≤ T := by omega
          have HXT := Lib.hid hxt
          clear hxt
          go_wp2_with (refine wpList_store_to rfl 40 (.tmp 4) (.tmp 75) rfl rfl Y #[.slice none 0 0, .slice none 0 0] rfl rfl 40 #[.slice none 0 0, .slice none 0 0] HZ0.out siz_sft rfl (by simp [Value.oneCell']) ?_)
          refine bodyPost_ret (v := .tuple #[.agg #[.slice none 0 0, .slice none 0 0], .bool false]) (res_cell_tmp (p := 4) (q := 5) (ty := 40) (by kernel_rfl) _ _ Y 40 #[.slice none 0 0, .slice none 0 0] (0, 0) D rfl (setRow_heap _ _ #[.slice none 0 0, .slice none 0 0] _ _ _ HZ0.out) HU.out HD.out siz_sft (.bool false) rfl) rfl ?_
          rw [HFN.out, HXT.out]
          exact ⟨_, _, rfl, SliceV.nil _ _, SliceV.nil _ _, below_setRow HB0.out HY.out _⟩
        | some xt =>
          have htn : decide ((n1 : Int) ≤ (T : Int)) = false := decide_eq_false (by have := (List.getElem?_eq_some_iff.1 hxt).1; have := HN1.out; omega)
          have htnn : decide (n1 ≤ T) = false := decide_eq_false (by have := (List.getElem?_eq_some_iff.1 hxt).1; have := HN1.out; omega)
          have htl : (T : Int) < (n1 : Int) := by have := (List.getElem?_eq_some_iff.1 hxt).1; have := HN1.out; omega
          obtain ⟨g1, o1, D1, d1, D2, d2, rfl, hg1, hc0, hc1, hs1, hs2⟩ := ft_at HL1.out hxt
          have z1 := (HB0.out.cell (p := ⟨g1, o1 + T * 2, none⟩) hg1).trans hc0
          have z2 := (HB0.out.cell (p := ⟨g1, o1 + T * 2 + 1, none⟩) hg1).trans hc1
          have HS1 := Lib.hid hs1
          have HS2 := Lib.hid hs2
          have HXT := Lib.hid hxt
          clear hxt hc0 hc1 hs1 hs2
          generalize hp1 : xt.params.length = p1 at z1 HS1
          generalize hp2 : xt.results.length = p2 at z2 HS2
          clear hp1 hp2
          go_wp2_with (refine wpList_store_to rfl 40 (.tmp 4) (.tmp 80) rfl rfl Y #[.slice D1 p1 d1, .slice D2 p2 d2] rfl rfl 40 #[.slice none 0 0, .slice none 0 0] HZ0.out siz_sft rfl (by simp [Value.oneCell']) ?_)
          refine bodyPost_ret (v := .tuple #[.agg #[.slice D1 p1 d1, .slice D2 p2 d2], .bool true]) (res_cell_tmp (p := 4) (q := 5) (ty := 40) (by kernel_rfl) _ _ Y 40 #[.slice D1 p1 d1, .slice D2 p2 d2] (0, 0) D rfl (setRow_heap _ _ #[.slice none 0 0, .slice none 0 0] _ _ _ HZ0.out) HU.out HD.out siz_sft (.bool true) rfl) rfl ?_
          rw [HFN.out, HXT.out]
          have hbz := below_setRow HB0.out HY.out #[.slice D1 p1 d1, .slice D2 p2 d2]
          exact ⟨_, _, rfl, (HS1.out.mod (T := fun _ => False) (Mod.of_below hbz) (fun _ _ _ h => h)).more (fun k _ hk => Nat.lt_of_lt_of_le hk hbz.size), (HS2.out.mod (T := fun _ => False) (Mod.of_below hbz) (fun _ _ _ h => h)).more (fun k _ hk => Nat.lt_of_lt_of_le hk hbz.size), hbz⟩
      · have hr := (HFU2.out _ rfl).2 (decide_eq_false h)
        rw [decide_eq_false h]
        obtain ⟨p, hp⟩ : ∃ p, i - ni = p := ⟨_, rfl⟩
        rw [hp] at hr
        have hge : (ni : Int) ≤ (i : Int) := by omega
        have hgen : ni ≤ i := by omega
        have hsub : IntKind.u64.wrap ((i : Int) - (ni : Int)) = (p : Int) := by rw [IntWalk.u64_in _ (by omega)]; omega
        have hpb : p < 4294967296 := by omega
        cases hx : m.funcs[p]? with
        | none =>
          have hpn : decide ((p : Int) < (n3 : Int)) = false := decide_eq_false (by have := List.getElem?_eq_none_iff.1 hx; have := HN3.out; omega)
          have hpnn : decide (p < n3) = false := decide_eq_false (by have := List.getElem?_eq_none_iff.1 hx; have := HN3.out; omega)
          rw [hx] at hr
          have HFN : Hid (func m i = none) := Lib.hid (by unfold func; rw [hr]; rfl)
          have HH := Lib.hid h
          have HP := Lib.hid hp
          clear hr h hp hx
          go_wp2_with (refine wpList_store_to rfl 40 (.tmp 4) (.tmp 75) rfl rfl Y #[.slice none 0 0, .slice none 0 0] rfl rfl 40 #[.slice none 0 0, .slice none 0 0] HZ0.out siz_sft rfl (by simp [Value.oneCell']) ?_)
          refine bodyPost_ret (v := .tuple #[.agg #[.slice none 0 0, .slice none 0 0], .bool false]) (res_cell_tmp (p := 4) (q := 5) (ty := 40) (by kernel_rfl) _ _ Y 40 #[.slice none 0 0, .slice none 0 0] (0, 0) D rfl (setRow_heap _ _ #[.slice none 0 0, .slice none 0 0] _ _ _ HZ0.out) HU.out HD.out siz_sft (.bool false) rfl) rfl ?_
          rw [HFN.out]
          exact ⟨_, _, rfl, SliceV.nil _ _, SliceV.nil _ _, below_setRow HB0.out HY.out _⟩
        | some x =>
          have hpn : (p : Int) < (n3 : Int) := by have := (List.getElem?_eq_some_iff.1 hx).1; have := HN3.out; omega
          have hpnn : p < n3 := by omega
          obtain ⟨g, o, rfl, hg, hc, hxl⟩ := nat_at HL3.out hx
          have z0 := (HB0.out.cell (p := ⟨g, o + p, none⟩) hg).trans hc
          rw [hx] at hr
          have HFN : Hid (func m i = m.types[x]?) := Lib.hid (by unfold func; rw [hr]; rfl)
          have HH := Lib.hid h
          have HP := Lib.hid hp
          clear hr h hp hx hc
          cases hxt : m.types[x]? with
          | none =>
            have htn : (n1 : Int) ≤ (x : Int) := by have := List.getElem?_eq_none_iff.1 hxt; have := HN1.out; omega
            have htnn : n1 ≤ x := by omega
            have HXT := Lib.hid hxt
            clear hxt
            go_wp2_with (refine wpList_store_to rfl 40 (.tmp 4) (.tmp 75) rfl rfl Y #[.slice none 0 0, .slice none 0 0] rfl rfl 40 #[.slice none 0 0, .slice none 0 0] HZ0.out siz_sft rfl (by simp [Value.oneCell']) ?_)
            refine bodyPost_ret (v := .tuple #[.agg #[.slice none 0 0, .slice none 0 0], .bool false]) (res_cell_tmp (p := 4) (q := 5) (ty := 40) (by kernel_rfl) _ _ Y 40 #[.slice none 0 0, .slice none 0 0] (0, 0) D rfl (setRow_heap _ _ #[.slice none 0 0, .slice none 0 0] _ _ _ HZ0.out) HU.out HD.out siz_sft (.bool false) rfl) rfl ?_
            rw [HFN.out, HXT.out]
            exact ⟨_, _, rfl, SliceV.nil _ _, SliceV.nil _ _, below_setRow HB0.out HY.out _⟩
          | some xt =>
            have htn : decide ((n1 : Int) ≤ (x : Int)) = false := decide_eq_false (by have := (List.getElem?_eq_some_iff.1 hxt).1; have := HN1.out; omega)
            have htnn : decide (n1 ≤ x) = false := decide_eq_false (by have := (List.getElem?_eq_some_iff.1 hxt).1; have := HN1.out; omega)
            have htl : (x : Int) < (n1 : Int) := by have := (List.getElem?_eq_some_iff.1 hxt).1; have := HN1.out; omega
            obtain ⟨g1, o1, D1, d1, D2, d2, rfl, hg1, hc0, hc1, hs1, hs2⟩ := ft_at HL1.out hxt
            have z1 := (HB0.out.cell (p := ⟨g1, o1 + x * 2, none⟩) hg1).trans hc0
            have z2 := (HB0.out.cell (p := ⟨g1, o1 + x * 2 + 1, none⟩) hg1).trans hc1
            have HS1 := Lib.hid hs1
            have HS2 := Lib.hid hs2
            have HXT := Lib.hid hxt
            clear hxt hc0 hc1 hs1 hs2
            generalize hp1 : xt.params.length = p1 at z1 HS1
            generalize hp2 : xt.results.length = p2 at z2 HS2
            clear hp1 hp2
            go_wp2_with (refine wpList_store_to rfl 40 (.tmp 4) (.tmp 80) rfl rfl Y #[.slice D1 p1 d1, .slice D2 p2 d2] rfl rfl 40 #[.slice none 0 0, .slice none 0 0] HZ0.out siz_sft rfl (by simp [Value.oneCell']) ?_)
            refine bodyPost_ret (v := .tuple #[.agg #[.slice D1 p1 d1, .slice D2 p2 d2], .bool true]) (res_cell_tmp (p := 4) (q := 5) (ty := 40) (by kernel_rfl) _ _ Y 40 #[.slice D1 p1 d1, .slice D2 p2 d2] (0, 0) D rfl (setRow_heap _ _ #[.slice none 0 0, .slice none 0 0] _ _ _ HZ0.out) HU.out HD.out siz_sft (.bool true) rfl) rfl ?_
            rw [HFN.out, HXT.out]
            have hbz := below_setRow HB0.out HY.out #[.slice D1 p1 d1, .slice D2 p2 d2]
            exact ⟨_, _, rfl, (HS1.out.mod (T := fun _ => False) (Mod.of_below hbz) (fun _ _ _ h => h)).more (fun k _ hk => Nat.lt_of_lt_of_le hk hbz.size), (HS2.out.mod (T := fun _ => False) (Mod.of_below hbz) (fun _ _ _ h => h)).more (fun k _ hk => Nat.lt_of_lt_of_le hk hbz.size), hbz⟩
end Go.Proofs.Ytgnbkfkiigcdgaa
