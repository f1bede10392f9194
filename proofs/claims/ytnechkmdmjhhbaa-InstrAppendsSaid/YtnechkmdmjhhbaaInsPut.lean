/-
  own, putNumber, putLabels: bytes laid behind bytes, in a row of the call's own.
-/
import Derived.Test.YtnechkmdmjhhbaaInsPass
import Derived.Test.YtnechkmdmjhhbaaLebApp
import Derived.Test.YtnechkmdmjhhbaaAppend1
import Derived.Test.YtnechkmdmjhhbaaInsPure
namespace Go.Proofs.Ytnechkmdmjhhbaa
open Go.RowKit Ins
/-- From one world to another a row of bytes of the call's own has become another one: that row alone has changed, or a new one is laid. -/
def Adds (base : Nat) (w : World) (v : Value) (w' : World) (v' : Value) (l' : List UInt8) : Prop :=
  w'.ownsRow base 5 1 v' l'.length (bytesOf l') ∧ Mod (fun g => v.ownBlock = some g) w w' ∧ ∀ g, v'.ownBlock = some g → v.ownBlock = some g ∨ w.heap.size ≤ g
theorem Adds.trans {base : Nat} {w w1 w2 : World} {v v1 v2 : Value} {l1 l2 : List UInt8} (h : Adds base w v w1 v1 l1) (h2 : Adds base w1 v1 w2 v2 l2) : Adds base w v w2 v2 l2 := by
  refine ⟨h2.1, h.2.1.trans h2.2.1 (fun g hg h3 => ?_), fun g hg => ?_⟩
  · rcases h.2.2 g h3 with h4 | h4
    · exact h4
    · omega
  · rcases h2.2.2 g hg with h3 | h3
    · exact h.2.2 g h3
    · have := h.2.1.size
      exact .inr (by omega)
/-- A call that leaves all as it was comes ahead. -/
theorem Adds.behind {base : Nat} {w w1 w2 : World} {v v2 : Value} {l2 : List UInt8} (hb : Below w.heap.size w w1) (h2 : Adds base w1 v w2 v2 l2) : Adds base w v w2 v2 l2 := by
  refine ⟨h2.1, (Mod.of_below hb).trans h2.2.1 (fun g _ h3 => h3), fun g hg => ?_⟩
  rcases h2.2.2 g hg with h3 | h3
  · exact .inl h3
  · have := hb.size
    exact .inr (by omega)
theorem Adds.below {base : Nat} {w w' : World} {v v' : Value} {l' : List UInt8} (h : Adds base w v w' v' l') (hv : ∀ g, v.ownBlock = some g → base ≤ g) (hb : base ≤ w.heap.size) : Below base w w' := h.2.1.below hb (fun k hk e => by have := hv k e; omega)
/-- What a call that lays bytes behind a row comes to. -/
def PutPost (base : Nat) (v : Value) (l' : List UInt8) (w : World) (e : Ending) (w' : World) : Prop := ∃ v', e = .returned v' ∧ Adds base w v w' v' l'
set_option maxRecDepth 100000 in
theorem appends_has (w : World) (base n m c : Nat) (v : Value) (l1 l2 : List UInt8) (A : Option Addr) (hown : w.ownsRow base 5 1 v n (bytesOf l1)) (hA : Has w w.heap.size A l2) (hm : m = l2.length) (hsz : n + m ≤ 140737488355328) (hb : base ≤ w.heap.size) :
    ∃ v' w', (Builtin.append_ #[22, 22] 22 #[v, .slice A m c]).run Try.prog w = .ok v' w' ∧ w'.ownsRow base 5 1 v' (n + m) (bytesOf (l1 ++ l2)) ∧ Mod (fun g => v.ownBlock = some g) w w' ∧ ∀ g, v'.ownBlock = some g → v.ownBlock = some g ∨ w.heap.size ≤ g := by
  obtain ⟨i0, hi, hz0, hz1, hz2⟩ := info_parts info5
  by_cases h0 : l2 = []
  · subst h0
    have hm0 : m = 0 := hm
    subst hm0
    cases A with
    | none => exact ⟨v, w, run_append_nil w base n c v _ hown, by simpa using hown, Mod.refl _ _, fun g hg => .inl hg⟩
    | some a =>
      obtain ⟨v', w', hrun, h2, h3, h4⟩ := run_append_own (P := Try.prog) w base 22 22 5 i0 (.int .u8 0) 1 1 und22 hi hz0 hz1 hz2 rfl (by decide) v n (bytesOf l1) hown a 0 c [] rfl (fun j u h => by simp at h) (by simp) (by unfold maxLen; omega) (by omega) hb
      refine ⟨v', w', hrun, by simpa using h2, Mod.of_grown h3 (fun _ h => h), fun g hg => ?_⟩
      rcases hown.2 with ⟨rfl, rfl⟩ | ⟨g0, cap, cur, rfl, hbg, hg0, hnc, hcm, hcs, htake⟩
      · have := h4.2 ⟨rfl, rfl⟩
        subst this
        exact .inl hg
      · have hr := run_append_room (P := Try.prog) w 22 22 5 i0 und22 hi g0 n cap cur hg0 a 0 c [] (by simp) (fun j u h => by simp at h) (by simp) (by omega) (by simp [hz1]; omega)
        rw [hr] at hrun
        injection hrun with h1 h2
        subst h1
        exact .inl hg
  · cases A with
    | none =>
      exfalso
      cases l2 with
      | nil => exact h0 rfl
      | cons x r =>
        obtain ⟨ad, h, _⟩ := hA 0 x (by simp)
        cases h
    | some a =>
      have hl : 0 < m := by rw [hm]; exact List.length_pos_iff.2 h0
      have hnews : ∀ j u, (bytesOf l2)[j]? = some u → w.cell? (a.add j) = some u := by
        intro j u hu
        have h0 : 0 < (bytesOf l2).length := by have := (List.getElem?_eq_some_iff.1 hu).1; omega
        obtain ⟨ad, h, hc⟩ := hA.cells h0
        injection h with h
        subst h
        exact hc j u hu
      obtain ⟨v', w', hrun, h2, h3, _⟩ := run_append_own (P := Try.prog) w base 22 22 5 i0 (.int .u8 0) 1 1 und22 hi hz0 hz1 hz2 rfl (by decide) v n (bytesOf l1) hown a m c (bytesOf l2) (by rw [bytesOf_length, Nat.mul_one, hm]) hnews (bytesOf_one l2) (by unfold maxLen; omega) (by omega) hb
      exact ⟨v', w', hrun, by rw [bytesOf_append]; exact h2, Mod.of_grown h3 (fun _ h => h), append_tight (P := Try.prog) w base 22 22 5 i0 (.int .u8 0) 1 1 und22 hi hz0 hz1 hz2 v n (bytesOf l1) hown a m c (bytesOf l2) (by rw [bytesOf_length, Nat.mul_one, hm]) hnews (bytesOf_one l2) hl (by unfold maxLen; omega) (by omega) hrun⟩
theorem appends_adds (w : World) (base m c : Nat) (v : Value) (l1 l2 : List UInt8) (A : Option Addr) (hown : w.ownsRow base 5 1 v l1.length (bytesOf l1)) (hA : Has w w.heap.size A l2) (hm : m = l2.length) (hsz : l1.length + l2.length ≤ 140737488355328) (hb : base ≤ w.heap.size) :
    ∃ v' w', (Builtin.append_ #[22, 22] 22 #[v, .slice A m c]).run Try.prog w = .ok v' w' ∧ Adds base w v w' v' (l1 ++ l2) := by
  obtain ⟨v', w', h1, h2, h3, h4⟩ := appends_has w base l1.length m c v l1 l2 A hown hA hm (by omega) hb
  exact ⟨v', w', h1, by rw [List.length_append, ← hm]; exact h2, h3, h4⟩
theorem append1_adds (w : World) (base : Nat) (v : Value) (l : List UInt8) (x : UInt8) (hown : w.ownsRow base 5 1 v l.length (bytesOf l)) (hsz : l.length + 1 ≤ 140737488355328) (hb : base ≤ w.heap.size) :
    ∃ v' w', (Builtin.append_ #[22, 22] 22 #[v, .slice (some ⟨w.heap.size, 0, none⟩) 1 1]).run Try.prog (w.alloc (.cells #[.int .u8 (x.toNat : Int)] 5)) = .ok v' w' ∧ Adds base w v w' v' (l ++ [x]) := by
  have hlit : Has (w.alloc (.cells #[.int .u8 (x.toNat : Int)] 5)) (w.heap.size + 1) (some ⟨w.heap.size, 0, none⟩) [x] := Has.lit w [x] 5
  obtain ⟨v', w', h1, h2⟩ := appends_adds _ base 1 1 v l [x] _ (hown.alloc _) (hlit.more (by simp)) rfl (by simpa using hsz) (by simp; omega)
  exact ⟨v', w', h1, Adds.behind ((Below.refl _ _).alloc (Nat.le_refl _) _) h2⟩
/-- own: the bytes in a row of the call's own. -/
def OwnPost (l : List UInt8) (w : World) (e : Ending) (w' : World) : Prop := ∃ v', e = .returned v' ∧ w'.ownsRow w.heap.size 5 1 v' l.length (bytesOf l) ∧ Below w.heap.size w w'
set_option maxRecDepth 100000 in
set_option maxHeartbeats 1000000 in
theorem own_any (A : Option Addr) (l : List UInt8) (c : Nat) (w : World) (hA : Has w w.heap.size A l) (hsz : l.length ≤ 140737488355328) :
    Calls Try.prog 19 #[.slice A l.length c] w (OwnPost l w) := by
  have hb0 : Below w.heap.size w (w.alloc (.cells #[] 5)) := (Below.refl _ _).alloc (Nat.le_refl _) _
  have hown0 : (w.alloc (.cells #[] 5)).ownsRow w.heap.size 5 1 (.slice (some ⟨w.heap.size, 0, none⟩) 0 0) 0 (bytesOf []) :=
    ⟨rfl, .inr ⟨w.heap.size, 0, #[], rfl, Nat.le_refl _, heap_alloc_new w _, Nat.le_refl _, by unfold maxLen; omega, rfl, rfl⟩⟩
  obtain ⟨v', w', hrun, ho, hm, ht⟩ := appends_has (w.alloc (.cells #[] 5)) w.heap.size 0 l.length c _ [] l A hown0 (hA.on hb0) rfl (by omega) hb0.size
  have HR := Lib.hid hrun
  have HO := Lib.hid ho
  have HB := Lib.hid (hb0.trans (hm.below (by simp) (fun k hk e => by simp [Value.ownBlock] at e; omega)))
  clear hrun ho hm ht hb0 hown0 hA
  go_enter Try.func19, Try.ntmps19
  go_wp2_with (at_builtin; refine wpList_appends rfl (.tmp 3) (.tmp 4) 22 rfl _ _ _ w' rfl rfl HR.out ?_)
  go_ret
  have h := HO.out
  rw [Nat.zero_add, List.nil_append] at h
  exact ⟨_, rfl, h, HB.out⟩
set_option maxRecDepth 100000 in
set_option maxHeartbeats 1000000 in
theorem putNumber_any (base : Nat) (v : Value) (l : List UInt8) (N : Nat) (w : World) (hown : w.ownsRow base 5 1 v l.length (bytesOf l)) (hb : base ≤ w.heap.size) (hN : N < 4294967296) (hsz : l.length ≤ 100000000000000) :
    Calls Try.prog 33 #[v, .int .u32 (N : Int)] w (PutPost base v (l ++ Leb.encU N) w) := by
  have HC := Lib.hid (c11 none [] 0 0 N w rfl (by omega) (Has.nil _ _ _) (by omega))
  have HO := Lib.hid hown
  have hle := Leb.encU_le10 N (by omega)
  have hw : IntKind.u64.wrap (N : Int) = (N : Int) := IntWalk.u64_in _ (by omega)
  clear hown
  generalize Leb.encU N = E at HC hle ⊢
  go_enter Try.func33, Try.ntmps33
  go_wp2_with fail
  refine HC.out.mono ?_
  rintro e w1 ⟨v1, rfl, ho1, hb1⟩
  rw [List.nil_append, Nat.zero_add] at ho1
  obtain ⟨A1, c1, rfl, _, hn1, hh1⟩ := Has.own ho1
  obtain ⟨v2, w2, hr2, ha2⟩ := appends_adds w1 base E.length c1 v l E A1 ((Mod.of_below (T := fun _ => False) hb1).own HO.out (fun _ _ h => h)) hh1 hn1 (by omega) (Nat.le_trans hb hb1.size)
  have HR2 := Lib.hid hr2
  have HA2 := Lib.hid (Adds.behind hb1 ha2)
  clear ho1 hh1 hr2 ha2 hb1 hn1 HC HO hw
  go_wp2_with (at_builtin; refine wpList_appends rfl (.tmp 5) (.tmp 8) 22 rfl _ _ _ w2 rfl rfl HR2.out ?_)
  go_ret
  exact ⟨_, rfl, HA2.out⟩
set_option maxRecDepth 100000 in
set_option maxHeartbeats 1000000 in
theorem putLabels_any (base : Nat) (v : Value) (l : List UInt8) (S : Nat → Prop) (A : Option Addr) (c : Nat) (L : List Nat) (w : World) (hown : w.ownsRow base 5 1 v l.length (bytesOf l)) (hb : base ≤ w.heap.size) (hL : HasU w S A L) (hS : ∀ g, S g → v.ownBlock ≠ some g) (hw : ∀ n ∈ L, n < 4294967296)
    (hlen : L.length < 4294967296) (hsz : l.length + 10 * (L.length + 1) ≤ 100000000000000) :
    Calls Try.prog 34 #[v, .slice A L.length c] w (PutPost base v (l ++ (Leb.encU L.length ++ labs L)) w) := by
  obtain ⟨n, hn⟩ : ∃ n, L.length = n := ⟨_, rfl⟩
  have HN := Lib.hid hn
  have HC := Lib.hid (putNumber_any base v l n w hown hb (by omega) (by omega))
  have HW := Lib.hid hw
  have HS := Lib.hid hS
  have HL := Lib.hid hL
  have HOV := Lib.hid (own_lt hown)
  have hle := Leb.encU_le10 n (by omega)
  have hwr : IntKind.u32.wrap (n : Int) = (n : Int) := IntWalk.u32_in _ (by omega)
  rw [hn] at hlen hsz ⊢
  clear hown hL hS hw hn
  generalize Leb.encU n = E at HC hle ⊢
  go_enter Try.func34, Try.ntmps34
  go_wp2_with (go_at_call 33; refine HC.out.mono ?_; rintro e w1 ⟨v1, rfl, ha1⟩; have HA1 := Lib.hid ha1; clear ha1)
  clear HC
  go_loopw [0, 14] (fun u i wr => ∃ (j : Nat) (done : List UInt8), j ≤ n ∧ i = .int .i64 (j : Int) ∧ Hid (done = l ++ (E ++ labs (L.take j))) ∧ done.length ≤ l.length + 10 * (j + 1) ∧ Hid (Adds base w v wr u done)) (fun _ i _ => n - (intOf i).toNat)
  case atStart => exact ⟨0, l ++ E, by omega, rfl, Lib.hid (by simp [labs]), by simp; omega, HA1⟩
  case round =>
    obtain ⟨j, done, hj, rfl, HD, hdl, HA⟩ := hrel
    by_cases hjn : j < n
    · obtain ⟨x, hx⟩ : ∃ x, L[j]? = some x := ⟨_, List.getElem?_eq_getElem (by have := HN.out; omega)⟩
      have hLr : HasU wr S A L := HL.out.mod HA.out.2.1 (fun g _ hg e => HS.out g hg e)
      obtain ⟨g, o, rfl, _, hcell⟩ := hLr j x hx
      have hx32 : x < 4294967296 := HW.out x (List.mem_of_getElem? hx)
      have HX := Lib.hid hx
      have hji : (j : Int) < (n : Int) := by omega
      have HP := Lib.hid (putNumber_any base _ done x wr HA.out.1 (Nat.le_trans hb HA.out.2.1.size) hx32 (by omega))
      have hle2 := Leb.encU_le10 x (by omega)
      have hlab : labs (L.take (j + 1)) = labs (L.take j) ++ Leb.encU x := by rw [List.take_add_one, hx]; simp [labs]
      have HLB := Lib.hid hlab
      clear hx hLr hlab
      generalize Leb.encU x = EX at HP hle2 HLB
      go_wp2_with (go_at_call 33; refine HP.out.mono ?_; rintro e w2 ⟨v2, rfl, ha2⟩; have HA2 := Lib.hid ha2; clear ha2)
      go_roundw
      case rel => exact ⟨j + 1, done ++ EX, by omega, by go_num, Lib.hid (by rw [HD.out, HLB.out]; simp), by simp; omega, Lib.hid (HA.out.trans HA2.out)⟩
      case measure => simp [intOf]; omega
    · obtain rfl : j = n := by omega
      go_wp2_with fail
      go_ret
      have h := HD.out
      rw [← HN.out, List.take_length] at h
      rw [← h]
      exact ⟨_, rfl, HA.out⟩
end Go.Proofs.Ytnechkmdmjhhbaa
