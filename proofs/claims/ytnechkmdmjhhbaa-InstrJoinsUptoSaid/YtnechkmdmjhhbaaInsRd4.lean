/-
  The reader's labels: so many numbers, in a row of the call's own.
-/
import Derived.Test.YtnechkmdmjhhbaaInsRd3
import Derived.OwnWalk
namespace Ins
theorem onto_onto {α : Type} (xs ys : List α) (k m : Nat) (r : Except Nat (List α × Nat)) : onto xs k (onto ys m r) = onto (xs ++ ys) (k + m) r := by
  cases r with
  | error e => rfl
  | ok q => simp [onto, Nat.add_assoc]
theorem rdMany_step {n : Nat} {l : List UInt8} {x k : Nat} (h : rdNum l = .ok (x, k)) : rdMany (n + 1) l = onto [x] k (rdMany n (l.drop k)) := by
  simp only [rdMany, h]
theorem rdMany_stop {n : Nat} {l : List UInt8} {e : Nat} (h : rdNum l = .error e) : rdMany (n + 1) l = .error e := by
  simp only [rdMany, h]
end Ins
namespace Go.Proofs.Ytnechkmdmjhhbaa
open Go.RowKit Ins
theorem und24u : Try.prog.underlying 24 = some (.slice 23) := by kernel_rfl
theorem info23 : (Try.prog.info? 23).map (fun i => (i.zero, i.size, i.bytes)) = some (some (.int .u32 0), 1, 4) := by kernel_rfl
theorem u32s_one (l : List Nat) : ∀ u ∈ u32s l, u.oneCell' = true := by
  intro u hu
  simp only [u32s, List.mem_map] at hu
  obtain ⟨x, _, rfl⟩ := hu
  rfl
theorem u32s_append (a b : List Nat) : u32s (a ++ b) = u32s a ++ u32s b := by simp [u32s]
/-- A row of the call's own reads as its numbers. -/
theorem HasU.own {w : World} {base n : Nat} {e : TypeId} {v : Value} {l : List Nat} (h : w.ownsRow base e 1 v n (u32s l)) : ∃ (A : Option Addr) (c : Nat), v = .slice A l.length c ∧ n = l.length ∧ l.length ≤ c ∧ c ≤ maxLen ∧ HasU w (base ≤ ·) A l := by
  have hl := h.1
  rw [u32s_length, Nat.mul_one] at hl
  subst hl
  rcases h.2 with ⟨rfl, h0⟩ | ⟨g, cap, cur, rfl, hb, hh, hc, hm, _, htk⟩
  · have : l = [] := List.eq_nil_of_length_eq_zero h0
    subst this
    exact ⟨none, 0, rfl, rfl, Nat.le_refl _, by unfold maxLen; omega, HasU.nil _ _ _⟩
  · refine ⟨_, cap, rfl, rfl, hc, hm, fun k n hk => ⟨g, 0, rfl, hb, ?_⟩⟩
    have hkl : k < l.length := (List.getElem?_eq_some_iff.1 hk).1
    have e1 := u32s_at hk
    rw [← htk, Nat.mul_one, List.getElem?_take, if_pos hkl] at e1
    rw [Nat.zero_add, cell_of_row w g k cur e (0, 0) hh]
    simpa using e1
set_option maxRecDepth 100000 in
theorem append1u (w : World) (base n : Nat) (v : Value) (l : List Nat) (x : Nat) (hown : w.ownsRow base 23 1 v n (u32s l)) (hsz : n + 1 ≤ 4294967296) (hb : base ≤ w.heap.size) :
    ∃ v' w', (Builtin.append_ #[24, 24] 24 #[v, .slice (some ⟨w.heap.size, 0, none⟩) 1 1]).run Try.prog (w.alloc (.cells #[.int .u32 (x : Int)] 23)) = .ok v' w' ∧ w'.ownsRow base 23 1 v' (n + 1) (u32s (l ++ [x])) ∧ Mod (base ≤ ·) w w' := by
  obtain ⟨i0, hi, hz0, hz1, hz2⟩ := info_parts info23
  obtain ⟨v', w', hrun, h2, h3, _⟩ := run_append_own (P := Try.prog) (w.alloc (.cells #[.int .u32 (x : Int)] 23)) base 24 24 23 i0 (.int .u32 0) 1 4 und24u hi hz0 hz1 hz2 rfl (by decide) v n (u32s l) (hown.alloc _) ⟨w.heap.size, 0, none⟩ 1 1 (u32s [x]) rfl (one_new w _ _) (u32s_one [x]) (by unfold maxLen; omega) (by omega) (by simp; omega)
  exact ⟨v', w', hrun, by rw [u32s_append]; exact h2, ((Mod.refl _ w).alloc _).trans (T' := (base ≤ ·)) (Mod.of_grown h3 (own_ge hown)) (fun _ _ h => h)⟩
/-- What the labels are told as. -/
def LabsV (B : Nat) (w : World) (v : Value) (xs : List Nat) : Prop := ∃ A c, v = .slice A xs.length c ∧ xs.length ≤ c ∧ c ≤ maxLen ∧ HasU w (B ≤ ·) A xs
set_option maxRecDepth 100000 in
set_option maxHeartbeats 2000000 in
theorem labels_any (R : Nat) (A : Option Addr) (c : Nat) (l : List UInt8) (p : Nat) (w : World) (h : Rd w R A c l p) :
    Calls Try.prog 46 #[.pointer (some ⟨R, 0, none⟩)] w (RdPost R A c l p w (rdLabels (l.drop p)) (LabsV w.heap.size)) := by
  have hlt := Lib.hid h.lt
  have HC := Lib.hid (number_any R A c l p w h)
  clear h
  unfold rdLabels
  cases hr : rdNum (l.drop p) with
  | error e =>
    rw [hr] at HC
    obtain rfl := rdNum_err hr
    go_enter Try.func46, Try.ntmps46
    go_wp2_with (go_at_call 45; refine HC.out.mono ?_; rintro e w1 ⟨rfl, hm⟩)
    exact ⟨rfl, rfl, hm⟩
  | ok q =>
    obtain ⟨N, k⟩ := q
    have hN := (rdNum_ok hr).1
    rw [hr] at HC
    clear hr
    dsimp only
    rw [List.drop_drop]
    go_enter Try.func46, Try.ntmps46
    go_wp2_with (go_at_call 45; refine HC.out.mono ?_; rintro e w1 ⟨v, rfl, rfl, hr, hm⟩; have HR := Lib.hid hr; have HM := Lib.hid hm; clear hr hm)
    clear HC
    go_loopw [3, 6] (fun v i wr => ∃ (j m : Nat) (xs : List Nat), j ≤ N ∧ i = .int .u32 (j : Int) ∧ Hid (wr.ownsRow w.heap.size 23 1 v j (u32s xs)) ∧ Hid (Rd wr R A c l (p + k + m)) ∧ Hid (Mod (· = R) w wr) ∧ Hid (rdMany N (l.drop (p + k)) = onto xs m (rdMany (N - j) (l.drop (p + k + m))))) (fun _ i _ => N - (intOf i).toNat)
    case atStart => exact ⟨0, 0, [], by omega, rfl, Lib.hid (World.ownsRow_nil _ _ _ _), HR, HM, Lib.hid (by simp only [Nat.sub_zero, Nat.add_zero]; cases rdMany N (l.drop (p + k)) <;> simp [onto])⟩
    case round =>
      obtain ⟨j, m, xs, hj, rfl, HO, HR1, HM1, HE⟩ := hrel
      by_cases hjn : j < N
      · have HC := Lib.hid (number_any R A c l (p + k + m) wr HR1.out)
        obtain ⟨d, hd⟩ : ∃ d, N - j = d + 1 := ⟨N - j - 1, by omega⟩
        have hd2 : d = N - (j + 1) := by omega
        have HD := Lib.hid hd
        have HD2 := Lib.hid hd2
        clear hd hd2
        have hw : IntKind.u32.wrap ((j : Int) + 1) = (j : Int) + 1 := IntWalk.u32_in _ (by omega)
        cases hr : rdNum (l.drop (p + k + m)) with
        | error e =>
          rw [hr] at HC
          have HS := Lib.hid (rdMany_stop (n := d) hr)
          obtain rfl := rdNum_err hr
          clear hr
          go_wp2_with (go_at_call 45; refine HC.out.mono ?_; rintro e w2 ⟨rfl, hm⟩; have HM2 := Lib.hid hm; clear hm)
          rw [HE.out, HD.out, HS.out]
          exact ⟨rfl, rfl, HM1.out.trans HM2.out (fun _ _ h => h)⟩
        | ok q =>
          obtain ⟨x, k2⟩ := q
          rw [hr] at HC
          have HS := Lib.hid (rdMany_step (n := d) hr)
          clear hr
          go_wp2_with (first | (go_at_call 45; refine HC.out.mono ?_; rintro e w2 ⟨v, rfl, rfl, hr, hm⟩; have HR2 := Lib.hid hr; have HM2 := Lib.hid hm; clear hr hm; obtain ⟨v3, w3, hr3, ho3, hm3⟩ := append1u w2 w.heap.size j _ xs x (HM2.out.own HO.out (fun g hg e => by have := own_ge HO.out g hg; have := hlt.out; omega)) (by omega) (Nat.le_trans HM1.out.size HM2.out.size); have HA3 := Lib.hid hr3; have HO3 := Lib.hid ho3; have HM3 := Lib.hid hm3; clear hr3 ho3 hm3) | (at_builtin; refine wpList_appends rfl (.tmp 8) (.tmp 11) 24 rfl _ _ _ w3 rfl rfl HA3.out ?_))
          go_roundw
          case rel =>
            refine ⟨j + 1, m + k2, xs ++ [x], by omega, by go_num, HO3, Lib.hid ?_, Lib.hid ?_, Lib.hid ?_⟩
            · have h := HR2.out.keep HM3.out (fun g hg => by have := hlt.out; omega)
              rwa [Nat.add_assoc] at h
            · exact (HM1.out.trans HM2.out (fun _ _ h => h)).trans HM3.out (fun g hg h => by omega)
            · rw [HE.out, HD.out, HS.out, onto_onto, List.drop_drop, ← HD2.out, Nat.add_assoc]
          case measure => simp [intOf]; omega
      · obtain rfl : j = N := by omega
        go_wp2_with fail
        go_ret
        rw [HE.out, Nat.sub_self]
        obtain ⟨A', c', hv, hn, h1, h2, h3⟩ := HasU.own HO.out
        simp only [rdMany, onto, List.append_nil, Nat.add_zero]
        exact ⟨_, rfl, ⟨A', c', hv, h1, h2, h3⟩, by simpa [Nat.add_assoc] using HR1.out, HM1.out⟩
end Go.Proofs.Ytnechkmdmjhhbaa
