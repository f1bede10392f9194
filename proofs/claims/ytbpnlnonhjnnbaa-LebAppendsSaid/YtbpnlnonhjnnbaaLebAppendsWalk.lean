/-
  The walk over the statement LebAppends: for every slice of bytes and every uint64 it answers true and leaves all memory that was there as it was.
-/
import Derived.Test.YtbpnlnonhjnnbaaLebKnown
import Derived.Deep.RegionHeld3
import Derived.Laws.CopyOwn
namespace Go.Proofs.Ytbpnlnonhjnnbaa
open Go.RowKit
theorem made_zeros (n : Nat) : (madeCells #[Value.int IntKind.u8 0] n).toList = List.replicate n (.int .u8 0) := toList_madeCells_one _ _
theorem room_run (w : World) (A : Option Addr) (l : List UInt8) (n c : Nat) (hn : n = l.length) (hA : Has w w.heap.size A l) :
    ∃ w1, (Builtin.append_ #[22, 22] 22 #[.slice (some ⟨w.heap.size, 0, none⟩) 0 (n + 20), .slice A n c]).run Try.prog (w.alloc (.cells (madeCells #[.int .u8 0] (n + 20)) 5)) = .ok (.slice (some ⟨w.heap.size, 0, none⟩) n (n + 20)) w1 ∧
      Below w.heap.size w w1 ∧ w1.heap.size = w.heap.size + 1 ∧ w1.heap[w.heap.size]? = some (.cells (bytesOf l ++ List.replicate 20 (Value.int .u8 0)).toArray 5 (0, 0)) := by
  obtain ⟨i0, hi, hz0, hz1, hz2⟩ := info_parts info5
  have hb0 : Below w.heap.size w (w.alloc (.cells (madeCells #[.int .u8 0] (n + 20)) 5)) := (Below.refl _ _).alloc (Nat.le_refl _) _
  have hg : (w.alloc (.cells (madeCells #[Value.int .u8 0] (n + 20)) 5)).heap[w.heap.size]? = some (.cells (madeCells #[Value.int .u8 0] (n + 20)) 5 (0, 0)) := heap_alloc_new w _
  cases A with
  | none =>
    have hl : l = [] := by
      cases l with
      | nil => rfl
      | cons x r =>
        obtain ⟨ad, h, _⟩ := hA 0 x (by simp)
        cases h
    subst hl
    obtain rfl : n = 0 := hn
    refine ⟨_, ?_, hb0, by simp, ?_⟩
    · simp [Builtin.append_, run_underlying und22, sizeOf, typeInfo, hi, Builtin.lenOf, Builtin.firstCells, storeCells]
    · rw [hg]
      congr 2
      exact Array.toList_inj.1 (by rw [made_zeros]; simp [bytesOf])
  | some a =>
    have hnews : ∀ j u, (bytesOf l)[j]? = some u → (w.alloc (.cells (madeCells #[Value.int .u8 0] (n + 20)) 5)).cell? (a.add j) = some u := by
      intro j u hu
      have h0 : 0 < (bytesOf l).length := by have := (List.getElem?_eq_some_iff.1 hu).1; omega
      obtain ⟨ad, h, hc⟩ := (hA.alloc (Nat.le_refl _) (.cells (madeCells #[Value.int .u8 0] (n + 20)) 5)).cells h0
      injection h with h
      subst h
      exact hc j u hu
    have hr := run_append_room (P := Try.prog) (w.alloc (.cells (madeCells #[Value.int .u8 0] (n + 20)) 5)) 22 22 5 i0 und22 hi w.heap.size 0 (n + 20) (madeCells #[.int .u8 0] (n + 20)) hg a n c (bytesOf l) (by rw [bytesOf_length, hz1, Nat.mul_one, hn]) hnews (bytesOf_one l) (by omega) (by rw [bytesOf_length, size_madeCells]; omega)
    rw [Nat.zero_add] at hr
    refine ⟨_, hr, below_setRow hb0 (Nat.le_refl _) _, by simp, ?_⟩
    rw [setRow_heap _ _ _ _ _ _ hg]
    congr 2
    rw [made_zeros]
    simp [bytesOf_length, ← hn]
theorem wpList_append_run {P : Program} {w : World} {ops : Array Oper} {rest : List Oper} {o : Oper} {a : Act} {Q : Exit → Act → World → Prop} (hgd : o.guard = none) (s x : Operand) (t : TypeId)
    (ho : o.op = .call { callee := .builtin .append, args := #[s, x], argTypes := #[t, t] }) (v u r : Value) (w' : World) (hs : a.eval s = v) (hx : a.eval x = u)
    (hrun : (Builtin.append_ #[t, t] o.type #[v, u]).run P w = .ok r w') (h : wpList P ops Q rest (a.put o.dst r) w') : wpList P ops Q (o :: rest) a w := by
  refine wpList_plain hgd fun K hK => ?_
  unfold Oper.wp execOp
  simp only [ho, resolve, invoke, builtin, Sem.run_bind, Sem.run_pure, Result.andThen_ok, List.map_toArray, List.map_cons, List.map_nil, hs, hx, hrun]
  exact hK _ _ h
theorem Has.row {w : World} {g t : Nat} {fr : Nat × Nat} {cs : List Value} {l : List UInt8} (h : w.heap[g]? = some (.cells (bytesOf l ++ cs).toArray t fr)) : Has w w.heap.size (some ⟨g, 0, none⟩) l := fun k x hx => by
  have hlt : g < w.heap.size := by
    rcases Nat.lt_or_ge g w.heap.size with h1 | h1
    · exact h1
    · rw [Array.getElem?_eq_none h1] at h; cases h
  refine ⟨_, rfl, hlt, ?_⟩
  have e2 : (⟨g, 0, none⟩ : Addr).add k = ⟨g, k, none⟩ := by
    unfold Addr.add; split <;> simp_all
  have hkl : k < l.length := (List.getElem?_eq_some_iff.1 hx).1
  rw [e2, cell_of_row w g k _ t fr h]
  rw [List.getElem?_toArray, List.getElem?_append_left (by rw [bytesOf_length]; exact hkl)]
  simp [bytesOf, hx]
theorem zero_row {w : World} {g t n j : Nat} {fr : Nat × Nat} {l : List UInt8} (h : w.heap[g]? = some (.cells (bytesOf l ++ List.replicate 20 (Value.int .u8 0)).toArray t fr)) (hn : n = l.length) (hj : j < 20) : w.cell? ⟨g, n + j, none⟩ = some (.int .u8 0) := by
  rw [cell_of_row w g (n + j) _ t fr h, List.getElem?_toArray, List.getElem?_append_right (by rw [bytesOf_length]; omega), bytesOf_length]
  rw [List.getElem?_replicate, if_pos (by omega)]
theorem Has.dr {w : World} {B : Nat} {A : Option Addr} {l : List UInt8} (h : Has w B A l) : Has w.drew B A l := h
/-- What string(..) of three slices gives, as long as what was there is as it was. -/
theorem keepS {w4 w' : World} {A A3 A4 : Option Addr} {l l3 l4 : List UInt8} {n n3 n4 c c3 c4 : Nat} (h : Has w4 w4.heap.size A l) (h3 : Has w4 w4.heap.size A3 l3) (h4 : Has w4 w4.heap.size A4 l4) (hn : n = l.length) (hn3 : n3 = l3.length) (hn4 : n4 = l4.length) (hb : Below w4.heap.size w4 w') :
    Below w4.heap.size w4 w' ∧ (convert 22 9 (.slice A n c)).run Try.prog w' = .ok (.string ⟨l.toArray⟩) w' ∧ (convert 22 9 (.slice A3 n3 c3)).run Try.prog w' = .ok (.string ⟨l3.toArray⟩) w' ∧ (convert 22 9 (.slice A4 n4 c4)).run Try.prog w' = .ok (.string ⟨l4.toArray⟩) w' :=
  ⟨hb, run_str (h.below hb) hn c, run_str (h3.below hb) hn3 c3, run_str (h4.below hb) hn4 c4⟩
theorem wpAnyH_strong {P : Program} {md : Region.Mode} {ops : Array Oper} {Q : Exit → Act → World → Prop} {S S' : World → Prop} (h : ∀ w, S' w → S w) : ∀ (fuel : Nat) (listed : Array Bool) (a : Act) (w : World), wpAnyH P md ops Q S' fuel listed a w → wpAnyH P md ops Q S fuel listed a w
  | 0, _, _, _, hw => hw
  | fuel + 1, _, _, _, hw => ⟨hw.1, fun i hi => wpOp_mono (fun a' w' h' => ⟨h w' h'.1, wpAnyH_strong h fuel _ a' w' h'.2⟩) (hw.2 i hi)⟩
set_option linter.unusedSimpArgs false in
set_option linter.unusedVariables false in
set_option maxHeartbeats 4000000 in
theorem walk4 (A : Option Addr) (l : List UInt8) (n c X : Nat) (w : World) (hn : n = l.length) (hmax : n ≤ 9223372036854775807) (hX : X < 18446744073709551616) (hA : Has w w.heap.size A l) :
    Calls Try.prog 4 #[.slice A n c, .int .u64 (X : Int)] w fun e w' => e = .returned (.bool true) ∧ Below w.heap.size w w' := by
  obtain ⟨i0, hi, hz0, hz1, hz2⟩ := info_parts info5
  have HA := Lib.hid hA
  have HN := Lib.hid hn
  have HX := Lib.hid hX
  clear hA hn hX
  by_cases hbig : 1000 < n
  · go_enter Try.func4, Try.ntmps4
    go_wp2_with (go_at_call 7; refine (c7 _).mono ?_; rintro e w1 ⟨rfl, hb1⟩)
    go_ret
    exact ⟨rfl, hb1⟩
  · go_enter Try.func4, Try.ntmps4
    go_wp2_with fail
    refine (c7 _).mono ?_
    rintro e w1 ⟨rfl, hb1⟩
    have HA1 := Lib.hid (HA.out.on hb1)
    have HB1 := Lib.hid hb1
    clear hb1
    obtain ⟨w2, hrun, hb2, hsz2, hrow⟩ := room_run w1 A l n c HN.out HA1.out
    have hmk := fun W => run_make (P := Try.prog) W 22 5 i0 (.int .u8 0) und22 hi hz0 .i64 .i64 0 ((n : Int) + 20) (by omega) (by omega) (by rw [hz2]; omega) (by omega)
    have HA2 := Lib.hid (HA1.out.on hb2)
    have HB2 := Lib.hid (HB1.out.trans (hb2.mono HB1.out.size))
    have HR2 := Lib.hid hrow
    have hg := Lib.hid (Has.row hrow)
    clear hb2 hsz2 hrow
    have HRun := Lib.hid hrun
    clear hrun
    go_wp2_with (at_builtin; refine wpList_append_run rfl _ _ 22 rfl _ _ _ w2 rfl rfl HRun.out ?_)
    refine (c11 _ l n (n + 20) X _ HN.out (by omega) hg.out HX.out).mono ?_
    rintro e w3 ⟨v3, rfl, hown3, hb3⟩
    clear hmk
    have HA3 := Lib.hid (HA2.out.on hb3)
    have hg3 := Lib.hid (hg.out.on hb3)
    have HB3 := Lib.hid (HB2.out.trans (hb3.mono HB2.out.size))
    have HO3 := Lib.hid hown3
    have Hb3 := Lib.hid hb3
    clear hown3 hb3
    go_wp2_with fail
    refine (c12 _ l n (n + 20) (wrap64 (X : Int)) _ HN.out (by omega) hg3.out (by unfold wrap64; omega)).mono ?_
    rintro e w4 ⟨v4, rfl, hown4, hb4⟩
    have HA4 := Lib.hid (HA3.out.on hb4)
    have HB4 := Lib.hid (HB3.out.trans (hb4.mono HB3.out.size))
    have HZ4 : Hid (w4.heap[w1.heap.size]? = some (Obj.cells (bytesOf l ++ List.replicate 20 (Value.int IntKind.u8 0)).toArray 5 (0, 0))) := by
      have hlt : w1.heap.size < w2.heap.size := by
        rcases Nat.lt_or_ge w1.heap.size w2.heap.size with h1 | h1
        · exact h1
        · have := HR2.out; rw [Array.getElem?_eq_none h1] at this; cases this
      exact Lib.hid ((hb4.block _ (Nat.lt_of_lt_of_le hlt Hb3.out.size)).trans ((Hb3.out.block _ hlt).trans HR2.out))
    have HU4 : Hid (∃ (A3 : Option Addr) (c3 : Nat), v3 = .slice A3 (n + (Leb.encU X).length) c3 ∧ Has w4 w4.heap.size A3 (l ++ Leb.encU X)) := by
      obtain ⟨A3, c3, h1, _, _, h4⟩ := Has.own HO3.out
      exact Lib.hid ⟨A3, c3, h1, h4.on hb4⟩
    have HS4 : Hid (∃ (A4 : Option Addr) (c4 : Nat), v4 = .slice A4 (n + (Leb.encS (wrap64 (X : Int))).length) c4 ∧ Has w4 w4.heap.size A4 (l ++ Leb.encS (wrap64 (X : Int)))) := by
      obtain ⟨A3, c3, h1, _, _, h4⟩ := Has.own hown4
      exact Lib.hid ⟨A3, c3, h1, h4⟩
    clear hown4 hb4 HO3 Hb3
    have h20 : ¬ (n + 20 = n) := by omega
    obtain ⟨A3, c3, rfl, hU4⟩ := HU4.out
    obtain ⟨A4, c4, rfl, hS4⟩ := HS4.out
    have HU := Lib.hid hU4
    have HS := Lib.hid hS4
    clear hU4 hS4 HU4 HS4
    go_wp2_with fail
    go_loop [39] (fun i => ∃ k : Nat, k ≤ 20 ∧ i = .int .i64 (k : Int)) (fun i => 20 - (intOf i).toNat)
    case atStart => exact ⟨0, by omega, rfl⟩
    case round =>
      obtain ⟨k, hk, rfl⟩ := hrel
      by_cases hlt : k < 20
      · have hcell := zero_row HZ4.out HN.out hlt
        go_wp2_with fail
        go_round
        case rel => exact ⟨k + 1, by omega, by go_num⟩
        case measure => simp [intOf]; omega
      · go_wp2_with fail
        have hk0 := keepS (c := c) (c3 := c3) (c4 := c4) HA4.out HU.out HS.out HN.out (n3 := n + (Leb.encU X).length) (by simp [← HN.out]) (n4 := n + (Leb.encS (wrap64 (X : Int))).length) (by simp [← HN.out]) (Below.drew (Below.refl _ _))
        obtain ⟨hB0, hk1, hk2, hk3⟩ := hk0
        have hl1 : l.length ≤ 1000 := by rw [← HN.out]; omega
        have he1 := Leb.encU_le10 X HX.out
        have he2 := Leb.encS_le10 (wrap64 (X : Int)) (by unfold wrap64; omega) (by unfold wrap64; omega)
        have hs1 : ¬ 9223372036854775807 < l.length + (Leb.encU X).length := by omega
        have hs2 : ¬ 9223372036854775807 < l.length + (Leb.encS (wrap64 (X : Int))).length := by omega
        have HCu := Lib.hid (fun W => c13u X W HX.out)
        have HCs := Lib.hid (fun W => c13s X W HX.out)
        generalize Leb.encU X = EU at *
        have hq1 : (ByteArray.mk (l ++ EU).toArray == ByteArray.mk l.toArray ++ ByteArray.mk EU.toArray) = true := by rw [ByteArray.mk_append_mk, beq_toListBytes]; exact beq_self_eq_true _
        generalize Leb.encS (wrap64 (X : Int)) = ES at *
        have hq2 : (ByteArray.mk (l ++ ES).toArray == ByteArray.mk l.toArray ++ ByteArray.mk ES.toArray) = true := by rw [ByteArray.mk_append_mk, beq_toListBytes]; exact beq_self_eq_true _
        refine wp_region_noPanic ?_
        refine wp_region_held_drew (S := (fun w' => Below w4.heap.size w4 w' ∧ (convert 22 9 (.slice A n c)).run Try.prog w' = .ok (.string ⟨l.toArray⟩) w' ∧ (convert 22 9 (.slice A3 (n + EU.length) c3)).run Try.prog w' = .ok (.string ⟨(l ++ EU).toArray⟩) w' ∧ (convert 22 9 (.slice A4 (n + ES.length) c4)).run Try.prog w' = .ok (.string ⟨(l ++ ES).toArray⟩) w')) (by kernel_rfl) ⟨hB0, hk1, hk2, hk3⟩ (fun hHeld => ?_)
        clear hk1 hk2 hk3
        refine wpAnyH_take (i := 0) (v := .slice A3 (n + EU.length) c3) rfl (by kernel_rfl) (by kernel_rfl) (by kernel_rfl) (fun _ _ _ h => h) (Or.inl ⟨by rfl, fun W hSW => ?_⟩) (by assumption) ?_
        · obtain ⟨hW0, hW1, hW2, hW3⟩ := hSW
          go_simp
        simp only [Act.put, List.getElem_toArray, List.getElem_cons_zero, List.getElem_cons_succ, List.setIfInBounds_toArray, List.set_cons_zero, List.set_cons_succ]
        refine wpAnyH_take (i := 1) (v := .string ⟨(l ++ EU).toArray⟩) rfl (by kernel_rfl) (by kernel_rfl) (by kernel_rfl) (fun _ _ _ h => h) (Or.inl ⟨by rfl, fun W hSW => ?_⟩) (by assumption) ?_
        · obtain ⟨hW0, hW1, hW2, hW3⟩ := hSW
          go_simp
        simp only [Act.put, List.getElem_toArray, List.getElem_cons_zero, List.getElem_cons_succ, List.setIfInBounds_toArray, List.set_cons_zero, List.set_cons_succ]
        refine wpAnyH_take (i := 2) (v := .slice A n c) rfl (by kernel_rfl) (by kernel_rfl) (by kernel_rfl) (fun _ _ _ h => h) (Or.inl ⟨by rfl, fun W hSW => ?_⟩) (by assumption) ?_
        · obtain ⟨hW0, hW1, hW2, hW3⟩ := hSW
          go_simp
        simp only [Act.put, List.getElem_toArray, List.getElem_cons_zero, List.getElem_cons_succ, List.setIfInBounds_toArray, List.set_cons_zero, List.set_cons_succ]
        refine wpAnyH_take (i := 3) (v := .string ⟨l.toArray⟩) rfl (by kernel_rfl) (by kernel_rfl) (by kernel_rfl) (fun _ _ _ h => h) (Or.inl ⟨by rfl, fun W hSW => ?_⟩) (by assumption) ?_
        · obtain ⟨hW0, hW1, hW2, hW3⟩ := hSW
          go_simp
        simp only [Act.put, List.getElem_toArray, List.getElem_cons_zero, List.getElem_cons_succ, List.setIfInBounds_toArray, List.set_cons_zero, List.set_cons_succ]
        refine wpAnyH_take (i := 4) (v := .int .u64 (X : Int)) rfl (by kernel_rfl) (by kernel_rfl) (by kernel_rfl) (fun _ _ _ h => h) (Or.inl ⟨by rfl, fun W hSW => ?_⟩) (by assumption) ?_
        · obtain ⟨hW0, hW1, hW2, hW3⟩ := hSW
          go_simp
        simp only [Act.put, List.getElem_toArray, List.getElem_cons_zero, List.getElem_cons_succ, List.setIfInBounds_toArray, List.set_cons_zero, List.set_cons_succ]
        refine wpAnyH_ready (rs := [5]) (by kernel_rfl) (by simp) ?_
        refine AllReadyH.cons rfl (fun K hK => ?_) AllReadyH.nil
        go_simp
        refine (HCu.out _).mono ?_
        rintro e w5 ⟨v5, rfl, hown5, hb5⟩
        obtain ⟨A5, c5, rfl, _, _, hh5⟩ := Has.own hown5
        have hB5 := hHeld.1.trans (hb5.mono hHeld.1.size)
        have hk5 := keepS (c := c) (c3 := c3) (c4 := c4) HA4.out HU.out HS.out HN.out (n3 := n + EU.length) (by simp [← HN.out]) (n4 := n + ES.length) (by simp [← HN.out]) hB5
        refine hK.out _ _ hk5 (fun _ => ?_)
        clear hK K hHeld hown5 hb5
        have hHeld5 : (fun w' => Below w4.heap.size w4 w' ∧ (convert 22 9 (.slice A n c)).run Try.prog w' = .ok (.string ⟨l.toArray⟩) w' ∧ (convert 22 9 (.slice A3 (n + EU.length) c3)).run Try.prog w' = .ok (.string ⟨(l ++ EU).toArray⟩) w' ∧ (convert 22 9 (.slice A4 (n + ES.length) c4)).run Try.prog w' = .ok (.string ⟨(l ++ ES).toArray⟩) w' ∧ (convert 22 9 (.slice A5 EU.length c5)).run Try.prog w' = .ok (.string ⟨EU.toArray⟩) w') w5 := ⟨hk5.1, hk5.2.1, hk5.2.2.1, hk5.2.2.2, run_str hh5 rfl c5⟩
        refine wpAnyH_strong (S' := fun w' => Below w4.heap.size w4 w' ∧ (convert 22 9 (.slice A n c)).run Try.prog w' = .ok (.string ⟨l.toArray⟩) w' ∧ (convert 22 9 (.slice A3 (n + EU.length) c3)).run Try.prog w' = .ok (.string ⟨(l ++ EU).toArray⟩) w' ∧ (convert 22 9 (.slice A4 (n + ES.length) c4)).run Try.prog w' = .ok (.string ⟨(l ++ ES).toArray⟩) w' ∧ (convert 22 9 (.slice A5 EU.length c5)).run Try.prog w' = .ok (.string ⟨EU.toArray⟩) w') (fun w' h => ⟨h.1, h.2.1, h.2.2.1, h.2.2.2.1⟩) _ _ _ _ ?_
        try simp only [Act.put, List.getElem_toArray, List.getElem_cons_zero, List.getElem_cons_succ, List.setIfInBounds_toArray, List.set_cons_zero, List.set_cons_succ]
        clear hk5
        have hH5 := Lib.hid hh5
        clear hh5
        refine wpAnyH_take (i := 6) (v := .string ⟨EU.toArray⟩) rfl (by kernel_rfl) (by kernel_rfl) (by kernel_rfl) (fun _ _ _ h => h) (Or.inl ⟨by rfl, fun W hSW => ?_⟩) (by assumption) ?_
        · obtain ⟨hW0, hW1, hW2, hW3, hW4⟩ := hSW
          go_simp
        simp only [Act.put, List.getElem_toArray, List.getElem_cons_zero, List.getElem_cons_succ, List.setIfInBounds_toArray, List.set_cons_zero, List.set_cons_succ]
        refine wpAnyH_take (i := 7) (v := .string (ByteArray.mk l.toArray ++ ByteArray.mk EU.toArray)) rfl (by kernel_rfl) (by kernel_rfl) (by kernel_rfl) (fun _ _ _ h => h) (Or.inl ⟨by rfl, fun W hSW => ?_⟩) (by assumption) ?_
        · obtain ⟨hW0, hW1, hW2, hW3, hW4⟩ := hSW
          go_simp
        simp only [Act.put, List.getElem_toArray, List.getElem_cons_zero, List.getElem_cons_succ, List.setIfInBounds_toArray, List.set_cons_zero, List.set_cons_succ]
        refine wpAnyH_take (i := 8) (v := .bool true) rfl (by kernel_rfl) (by kernel_rfl) (by kernel_rfl) (fun _ _ _ h => h) (Or.inl ⟨by rfl, fun W hSW => ?_⟩) (by assumption) ?_
        · obtain ⟨hW0, hW1, hW2, hW3, hW4⟩ := hSW
          go_simp
          rw [ByteArray.mk_append_mk, ByteArray.toList_eq]
        simp only [Act.put, List.getElem_toArray, List.getElem_cons_zero, List.getElem_cons_succ, List.setIfInBounds_toArray, List.set_cons_zero, List.set_cons_succ]
        refine wpAnyH_take (i := 9) (v := .bool true) rfl (by kernel_rfl) (by kernel_rfl) (by kernel_rfl) (fun _ _ _ h => h) (Or.inl ⟨by rfl, fun W hSW => ?_⟩) (by assumption) ?_
        · obtain ⟨hW0, hW1, hW2, hW3, hW4⟩ := hSW
          go_simp
        simp only [Act.put, List.getElem_toArray, List.getElem_cons_zero, List.getElem_cons_succ, List.setIfInBounds_toArray, List.set_cons_zero, List.set_cons_succ]
        refine wpAnyH_take (i := 10) (v := .slice A4 (n + ES.length) c4) rfl (by kernel_rfl) (by kernel_rfl) (by kernel_rfl) (fun _ _ _ h => h) (Or.inl ⟨by rfl, fun W hSW => ?_⟩) (by assumption) ?_
        · obtain ⟨hW0, hW1, hW2, hW3, hW4⟩ := hSW
          go_simp
        simp only [Act.put, List.getElem_toArray, List.getElem_cons_zero, List.getElem_cons_succ, List.setIfInBounds_toArray, List.set_cons_zero, List.set_cons_succ]
        refine wpAnyH_take (i := 11) (v := .string ⟨(l ++ ES).toArray⟩) rfl (by kernel_rfl) (by kernel_rfl) (by kernel_rfl) (fun _ _ _ h => h) (Or.inl ⟨by rfl, fun W hSW => ?_⟩) (by assumption) ?_
        · obtain ⟨hW0, hW1, hW2, hW3, hW4⟩ := hSW
          go_simp
        simp only [Act.put, List.getElem_toArray, List.getElem_cons_zero, List.getElem_cons_succ, List.setIfInBounds_toArray, List.set_cons_zero, List.set_cons_succ]
        refine wpAnyH_take (i := 12) (v := .slice A n c) rfl (by kernel_rfl) (by kernel_rfl) (by kernel_rfl) (fun _ _ _ h => h) (Or.inl ⟨by rfl, fun W hSW => ?_⟩) (by assumption) ?_
        · obtain ⟨hW0, hW1, hW2, hW3, hW4⟩ := hSW
          go_simp
        simp only [Act.put, List.getElem_toArray, List.getElem_cons_zero, List.getElem_cons_succ, List.setIfInBounds_toArray, List.set_cons_zero, List.set_cons_succ]
        refine wpAnyH_take (i := 13) (v := .string ⟨l.toArray⟩) rfl (by kernel_rfl) (by kernel_rfl) (by kernel_rfl) (fun _ _ _ h => h) (Or.inl ⟨by rfl, fun W hSW => ?_⟩) (by assumption) ?_
        · obtain ⟨hW0, hW1, hW2, hW3, hW4⟩ := hSW
          go_simp
        simp only [Act.put, List.getElem_toArray, List.getElem_cons_zero, List.getElem_cons_succ, List.setIfInBounds_toArray, List.set_cons_zero, List.set_cons_succ]
        refine wpAnyH_take (i := 14) (v := .int .u64 (X : Int)) rfl (by kernel_rfl) (by kernel_rfl) (by kernel_rfl) (fun _ _ _ h => h) (Or.inl ⟨by rfl, fun W hSW => ?_⟩) (by assumption) ?_
        · obtain ⟨hW0, hW1, hW2, hW3, hW4⟩ := hSW
          go_simp
        simp only [Act.put, List.getElem_toArray, List.getElem_cons_zero, List.getElem_cons_succ, List.setIfInBounds_toArray, List.set_cons_zero, List.set_cons_succ]
        refine wpAnyH_ready (rs := [15]) (by kernel_rfl) (by simp) ?_
        refine AllReadyH.cons rfl (fun K hK => ?_) AllReadyH.nil
        go_simp
        refine (HCs.out _).mono ?_
        rintro e w6 ⟨v6, rfl, hown6, hb6⟩
        obtain ⟨A6, c6, rfl, _, _, hh6⟩ := Has.own hown6
        have hB6 := hB5.trans (hb6.mono hB5.size)
        have hk6 := keepS (c := c) (c3 := c3) (c4 := c4) HA4.out HU.out HS.out HN.out (n3 := n + EU.length) (by simp [← HN.out]) (n4 := n + ES.length) (by simp [← HN.out]) hB6
        have hk7 := run_str (hH5.out.on hb6) rfl c5
        refine hK.out _ _ ⟨hk6.1, hk6.2.1, hk6.2.2.1, hk6.2.2.2, hk7⟩ (fun _ => ?_)
        have hHeld6 : (fun w' => Below w4.heap.size w4 w' ∧ (convert 22 9 (.slice A n c)).run Try.prog w' = .ok (.string ⟨l.toArray⟩) w' ∧ (convert 22 9 (.slice A3 (n + EU.length) c3)).run Try.prog w' = .ok (.string ⟨(l ++ EU).toArray⟩) w' ∧ (convert 22 9 (.slice A4 (n + ES.length) c4)).run Try.prog w' = .ok (.string ⟨(l ++ ES).toArray⟩) w' ∧ (convert 22 9 (.slice A5 EU.length c5)).run Try.prog w' = .ok (.string ⟨EU.toArray⟩) w' ∧ (convert 22 9 (.slice A6 ES.length c6)).run Try.prog w' = .ok (.string ⟨ES.toArray⟩) w') w6 := ⟨hk6.1, hk6.2.1, hk6.2.2.1, hk6.2.2.2, hk7, run_str hh6 rfl c6⟩
        clear hK K hHeld5 hown6 hb6 hk6 hk7 hh6
        refine wpAnyH_strong (S' := fun w' => Below w4.heap.size w4 w' ∧ (convert 22 9 (.slice A n c)).run Try.prog w' = .ok (.string ⟨l.toArray⟩) w' ∧ (convert 22 9 (.slice A3 (n + EU.length) c3)).run Try.prog w' = .ok (.string ⟨(l ++ EU).toArray⟩) w' ∧ (convert 22 9 (.slice A4 (n + ES.length) c4)).run Try.prog w' = .ok (.string ⟨(l ++ ES).toArray⟩) w' ∧ (convert 22 9 (.slice A5 EU.length c5)).run Try.prog w' = .ok (.string ⟨EU.toArray⟩) w' ∧ (convert 22 9 (.slice A6 ES.length c6)).run Try.prog w' = .ok (.string ⟨ES.toArray⟩) w') (fun w' h => ⟨h.1, h.2.1, h.2.2.1, h.2.2.2.1, h.2.2.2.2.1⟩) _ _ _ _ ?_
        try simp only [Act.put, List.getElem_toArray, List.getElem_cons_zero, List.getElem_cons_succ, List.setIfInBounds_toArray, List.set_cons_zero, List.set_cons_succ]
        refine wpAnyH_take (i := 16) (v := .string ⟨ES.toArray⟩) rfl (by kernel_rfl) (by kernel_rfl) (by kernel_rfl) (fun _ _ _ h => h) (Or.inl ⟨by rfl, fun W hSW => ?_⟩) (by assumption) ?_
        · obtain ⟨hW0, hW1, hW2, hW3, hW4, hW5⟩ := hSW
          go_simp
        simp only [Act.put, List.getElem_toArray, List.getElem_cons_zero, List.getElem_cons_succ, List.setIfInBounds_toArray, List.set_cons_zero, List.set_cons_succ]
        refine wpAnyH_take (i := 17) (v := .string (ByteArray.mk l.toArray ++ ByteArray.mk ES.toArray)) rfl (by kernel_rfl) (by kernel_rfl) (by kernel_rfl) (fun _ _ _ h => h) (Or.inl ⟨by rfl, fun W hSW => ?_⟩) (by assumption) ?_
        · obtain ⟨hW0, hW1, hW2, hW3, hW4, hW5⟩ := hSW
          go_simp
        simp only [Act.put, List.getElem_toArray, List.getElem_cons_zero, List.getElem_cons_succ, List.setIfInBounds_toArray, List.set_cons_zero, List.set_cons_succ]
        refine wpAnyH_take (i := 18) (v := .bool true) rfl (by kernel_rfl) (by kernel_rfl) (by kernel_rfl) (fun _ _ _ h => h) (Or.inl ⟨by rfl, fun W hSW => ?_⟩) (by assumption) ?_
        · obtain ⟨hW0, hW1, hW2, hW3, hW4, hW5⟩ := hSW
          go_simp
          rw [ByteArray.mk_append_mk, ByteArray.toList_eq]
        simp only [Act.put, List.getElem_toArray, List.getElem_cons_zero, List.getElem_cons_succ, List.setIfInBounds_toArray, List.set_cons_zero, List.set_cons_succ]
        refine wpAnyH_take (i := 19) (v := .bool true) rfl (by kernel_rfl) (by kernel_rfl) (by kernel_rfl) (fun _ _ _ h => h) (Or.inl ⟨by rfl, fun W hSW => ?_⟩) (by assumption) ?_
        · obtain ⟨hW0, hW1, hW2, hW3, hW4, hW5⟩ := hSW
          go_simp
        simp only [Act.put, List.getElem_toArray, List.getElem_cons_zero, List.getElem_cons_succ, List.setIfInBounds_toArray, List.set_cons_zero, List.set_cons_succ]
        refine wpAnyH_take (i := 20) (v := .bool true) rfl (by kernel_rfl) (by kernel_rfl) (by kernel_rfl) (fun _ _ _ h => h) (Or.inl ⟨by rfl, fun W hSW => ?_⟩) (by assumption) ?_
        · obtain ⟨hW0, hW1, hW2, hW3, hW4, hW5⟩ := hSW
          go_simp
        simp only [Act.put, List.getElem_toArray, List.getElem_cons_zero, List.getElem_cons_succ, List.setIfInBounds_toArray, List.set_cons_zero, List.set_cons_succ]
        refine wpAnyH_done (by kernel_rfl) ?_ _
        refine NoPanic.normal ?_
        go_wp2_with fail
        go_ret
        exact ⟨rfl, HB4.out.trans (hB6.mono HB4.out.size)⟩
end Go.Proofs.Ytbpnlnonhjnnbaa
