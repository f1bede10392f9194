/-
  The walk over the statement OpcApart: for every two opcodes it answers true and leaves all memory that was there as it was.
-/
import Derived.Test.YtejjkihggdmdlaaOpcKnown
import Derived.Test.YtejjkihggdmdlaaOpcFacts
import Derived.Test.YtejjkihggdmdlaaAppends
namespace Go.Proofs.Ytejjkihggdmdlaa
open Go.RowKit
theorem find_lit (s : ByteArray) (o : Option Nat) (h : Opc.find s.toList = o) (w : World) : Calls Try.prog 17 #[.string s] w fun e w' => e = .returned (.tuple #[.int .u8 ((o.getD 0 : Nat) : Int), .bool o.isSome]) ∧ Below w.heap.size w w' := by
  subst h; exact find_any s w
theorem sig_lit (x : Int) (p r : List UInt8) (b : Bool) (hp : Opc.sigP x = p) (hr : Opc.sigR x = r) (hb : Opc.plain x = b) (w : World) : Calls Try.prog 8 #[.int .u8 x] w (SigPost p r b w) := by
  subst hp hr hb; exact sig_any x w
theorem name_lit (n : Nat) (hn : n < 256) (S : ByteArray) (h : nm n = S) (w : World) : Calls Try.prog 15 #[.int .u8 (n : Int)] w fun e w' => e = .returned (.string S) ∧ Below w.heap.size w w' := by
  subst h; exact name_any n hn w
theorem t2 {l : List UInt8} (h : l.all (fun t => t == 126 || t == 127) = true) {k : Nat} {x : UInt8} (hx : l[k]? = some x) : x = 126 ∨ x = 127 := by
  have := List.all_eq_true.1 h x (List.mem_of_getElem? hx)
  simpa using this
set_option maxHeartbeats 4000000 in
theorem apart_no (n m : Nat) (w : World) (S : ByteArray) (o : Option Nat) (d : Bool) (hn : n < 256) (hd : ((n : Int) != (m : Int)) = d) (HS : Hid (nm n = S)) (HK : Hid (Opc.known n = false)) (HO : Hid (Opc.find S.toList = o)) (hS : S.toList.isEmpty = true)
    (HP : Hid (Opc.sigP n = [])) (HR : Hid (Opc.sigR n = [])) (HL : Hid (Opc.plain n = false)) (a : Bool) (X W : Int) (HA : Hid (Opc.form n = X)) (hA : (X == 6) = a) (HW : Hid (Opc.width n = W)) (hW : decide (0 < W) = a) :
    Calls Try.prog 5 #[.int .u8 (n : Int), .int .u8 (m : Int)] w fun e w' => e = .returned (.bool true) ∧ Below w.heap.size w w' := by
  cases d
  all_goals
    go_enter Try.func5, Try.ntmps5
    go_wp2_with fail
    refine (rows_any _).mono ?_
    rintro e w1 ⟨rfl, hb1⟩
    have HB1 := Lib.hid hb1
    clear hb1
    go_wp2_with fail
    refine (name_lit n hn S HS.out _).mono ?_
    rintro e w2 ⟨rfl, hb2⟩
    have HB2 := Lib.hid (HB1.out.trans (hb2.mono HB1.out.size))
    clear hb2 HB1
    go_wp2_with (go_at_call 10; refine (known_lit n false HK.out _).mono ?_; rintro e w' ⟨rfl, rfl⟩)
    refine (find_lit S o HO.out _).mono ?_
    rintro e w3 ⟨rfl, hb3⟩
    have HB3 := Lib.hid (HB2.out.trans (hb3.mono HB2.out.size))
    clear hb3 HB2
    go_wp2_with (go_at_call 10; refine (known_lit n false HK.out _).mono ?_; rintro e w' ⟨rfl, rfl⟩)
    refine (sig_lit n [] [] false HP.out HR.out HL.out _).mono ?_
    rintro e w4 ⟨A, B, rfl, hA4, hB4, hb4⟩
    have HB4 := Lib.hid (HB3.out.trans (hb4.mono HB3.out.size))
    obtain ⟨v, w5, C, c3, w6, hr1, hr2, hh, hb6⟩ := joined w4 A B [] [] 0 0 0 0 hA4 hB4 rfl rfl (by decide)
    have HB6 := Lib.hid (HB4.out.trans (hb6.mono HB4.out.size))
    have HR1 := Lib.hid hr1
    have HR2 := Lib.hid hr2
    clear hb4 HB3 hr1 hr2 hh hb6 HB4 hA4 hB4
    go_wp2_with (first | (at_builtin; refine wpList_appends rfl (.tmp 68) (.tmp 69) 27 rfl _ _ _ w5 rfl rfl HR1.out ?_) | (at_builtin; refine wpList_appends rfl (.tmp 70) (.tmp 71) 27 rfl _ _ _ w6 rfl rfl HR2.out ?_))
    go_loop [74] (fun i => i = .int .i64 0) (fun _ => 0)
    case atStart => rfl
    case round =>
      subst hrel
      cases a
      all_goals
        go_wp2_with (first | (go_at_call 13; refine (form_lit n X HA.out _).mono ?_; rintro e w' ⟨rfl, rfl⟩) | (go_at_call 14; refine (width_lit n W HW.out _).mono ?_; rintro e w' ⟨rfl, rfl⟩))
        go_ret
        exact ⟨rfl, HB6.out⟩
set_option maxHeartbeats 8000000 in
theorem apart_yes (n m : Nat) (w : World) (S S2 : ByteArray) (d : Bool) (hn : n < 256) (hm : m < 256) (hd : ((n : Int) != (m : Int)) = d) (HS : Hid (nm n = S)) (HS2 : Hid (nm m = S2)) (HK : Hid (Opc.known n = true)) (HF : Hid (Opc.float n = false)) (HO : Hid (Opc.find S.toList = some n)) (hS : S.toList.isEmpty = false)
    (hne : d = true → (S.toList == S2.toList) = false) (p r : List UInt8) (pl : Bool) (nP nR : Nat) (HNP : Hid (nP = p.length)) (HNR : Hid (nR = r.length)) (HT : Hid ((p ++ r).all (fun t => t == 126 || t == 127) = true))
    (HP : Hid (Opc.sigP n = p)) (HR : Hid (Opc.sigR n = r)) (HL : Hid (Opc.plain n = pl)) (a : Bool) (X W : Int) (HA : Hid (Opc.form n = X)) (hA : (X == 6) = a) (HW : Hid (Opc.width n = W)) (hW : decide (0 < W) = a)
    (hc : (pl = false ∧ nP = 0 ∧ nR = 0) ∨ (pl = true ∧ nP = 1 ∧ nR = 1) ∨ (pl = true ∧ nP = 2 ∧ nR = 0 ∧ a = true) ∨ (pl = true ∧ nP = 0 ∧ nR = 1) ∨ (pl = true ∧ nP = 2 ∧ nR = 1 ∧ a = false)) :
    Calls Try.prog 5 #[.int .u8 (n : Int), .int .u8 (m : Int)] w fun e w' => e = .returned (.bool true) ∧ Below w.heap.size w w' := by
  cases d
  case' true => have hnt := hne rfl
  all_goals
    clear hne
    rcases hc with ⟨rfl, rfl, rfl⟩ | ⟨rfl, rfl, rfl⟩ | ⟨rfl, rfl, rfl, rfl⟩ | ⟨rfl, rfl, rfl⟩ | ⟨rfl, rfl, rfl, rfl⟩
  all_goals
    go_enter Try.func5, Try.ntmps5
    go_wp2_with fail
    refine (rows_any _).mono ?_
    rintro e w1 ⟨rfl, hb1⟩
    have HB1 := Lib.hid hb1
    clear hb1
    go_wp2_with fail
    refine (name_lit n hn S HS.out _).mono ?_
    rintro e w2 ⟨rfl, hb2⟩
    have HB2 := Lib.hid (HB1.out.trans (hb2.mono HB1.out.size))
    clear hb2 HB1
    go_wp2_with (first | (go_at_call 10; refine (known_lit n true HK.out _).mono ?_; rintro e w' ⟨rfl, rfl⟩) | (go_at_call 11; refine (float_lit n false HF.out _).mono ?_; rintro e w' ⟨rfl, rfl⟩))
    try (go_at_call 15; refine (name_lit m hm S2 HS2.out _).mono ?_; rintro e w2' ⟨rfl, hb2⟩; have HBx := Lib.hid (HB2.out.trans (hb2.mono HB2.out.size)); clear hb2 HB2; have HB2 := Lib.hid HBx.out; clear HBx; go_wp2_with fail)
    refine (find_lit S (some n) HO.out _).mono ?_
    rintro e w3 ⟨rfl, hb3⟩
    have HB3 := Lib.hid (HB2.out.trans (hb3.mono HB2.out.size))
    clear hb3 HB2
    go_wp2_with (go_at_call 10; refine (known_lit n true HK.out _).mono ?_; rintro e w' ⟨rfl, rfl⟩)
    refine (sig_lit n p r _ HP.out HR.out HL.out _).mono ?_
    rintro e w4 ⟨A, B, rfl, hA4, hB4, hb4⟩
    have HB4 := Lib.hid (HB3.out.trans (hb4.mono HB3.out.size))
    rw [← HNP.out, ← HNR.out]
    obtain ⟨v, w5, C, c3, w6, hr1, hr2, hh, hb6⟩ := joined w4 A B p r p.length r.length p.length r.length hA4 hB4 rfl rfl (by rw [← HNP.out, ← HNR.out]; decide)
    rw [← HNP.out] at hr1
    rw [← HNP.out, ← HNR.out] at hr2
    simp only [Nat.reduceAdd, Nat.zero_add, Nat.add_zero] at hr2
    have HB6 := Lib.hid (HB4.out.trans (hb6.mono HB4.out.size))
    have HR1 := Lib.hid hr1
    have HR2 := Lib.hid hr2
    have HH := Lib.hid hh
    clear hb4 HB3 hr1 hr2 hh hb6 HB4 hA4 hB4
    go_wp2_with (first | (at_builtin; refine wpList_appends rfl (.tmp 68) (.tmp 69) 27 rfl _ _ _ w5 rfl rfl HR1.out ?_) | (at_builtin; refine wpList_appends rfl (.tmp 70) (.tmp 71) 27 rfl _ _ _ w6 rfl rfl HR2.out ?_))
    go_loop [74] (fun i => ∃ k : Nat, k ≤ 3 ∧ i = .int .i64 (k : Int)) (fun i => 3 - (intOf i).toNat)
    case atStart => exact ⟨0, by omega, rfl⟩
    case round =>
      obtain ⟨k, hk, rfl⟩ := hrel
      by_cases hlt : k < (p ++ r).length
      · obtain ⟨x, hx⟩ : ∃ x, (p ++ r)[k]? = some x := ⟨_, List.getElem?_eq_getElem hlt⟩
        obtain ⟨ad, hAad, hadB, hcell⟩ := HH.out k x hx
        have hx2 := t2 HT.out hx
        rw [List.length_append, ← HNP.out, ← HNR.out] at hlt
        clear hx
        subst hAad
        simp only [Nat.reduceAdd, Nat.zero_add, Nat.add_zero] at hlt
        rcases hx2 with rfl | rfl
        · replace hcell : w6.cell? (ad.add k) = some (.int .u8 126) := hcell
          first
          | (exfalso; omega)
          | (go_wp2_with fail
             go_round
             case rel => exact ⟨k + 1, by omega, by go_num⟩
             case measure => simp [intOf]; omega)
        · replace hcell : w6.cell? (ad.add k) = some (.int .u8 127) := hcell
          first
          | (exfalso; omega)
          | (go_wp2_with fail
             go_round
             case rel => exact ⟨k + 1, by omega, by go_num⟩
             case measure => simp [intOf]; omega)
      · rw [List.length_append, ← HNP.out, ← HNR.out] at hlt
        simp only [Nat.reduceAdd, Nat.zero_add, Nat.add_zero] at hlt
        (try cases a)
        all_goals
          go_wp2_with (first | (go_at_call 13; refine (form_lit n X HA.out _).mono ?_; rintro e w' ⟨rfl, rfl⟩) | (go_at_call 14; refine (width_lit n W HW.out _).mono ?_; rintro e w' ⟨rfl, rfl⟩) | (go_at_call 10; refine (known_lit n true HK.out _).mono ?_; rintro e w' ⟨rfl, rfl⟩))
          go_ret
          exact ⟨rfl, HB6.out⟩
theorem beq_none {S : ByteArray} {l : List UInt8} (h : S.toList = l) : S.toList.isEmpty = l.isEmpty := by rw [h]
theorem apart_any (n m : Nat) (w : World) (hn : n < 256) (hm : m < 256) :
    Calls Try.prog 5 #[.int .u8 (n : Int), .int .u8 (m : Int)] w fun e w' => e = .returned (.bool true) ∧ Below w.heap.size w w' := by
  have f1 := Opc.all_at Opc.fact1 hn
  have f2 := Opc.all_at Opc.fact2 hn
  have f2m := Opc.all_at Opc.fact2 hm
  have f1m := Opc.all_at Opc.fact1 hm
  have f3 := Opc.all_at Opc.fact3 hn
  have f4 := Opc.all_at Opc.fact4 hn
  have hl := nm_list n
  have hlm := nm_list m
  simp only [Bool.and_eq_true, Bool.or_eq_true, Bool.not_eq_true', beq_iff_eq, decide_eq_true_eq] at f1 f2 f2m f3 f4 f1m
  obtain ⟨f11, f12⟩ := f1
  obtain ⟨⟨⟨⟨f31, f32⟩, f33⟩, f34⟩, f35⟩ := f3
  obtain ⟨f41, f42⟩ := f4
  cases hk : Opc.known n
  · have hp : Opc.plain n = false := by
      rcases f35 with h | h
      · exact h
      · rw [hk] at h; cases h
    rw [hp] at f34
    simp only [Bool.false_eq_true, false_or] at f34
    rw [hk] at f12
    refine apart_no n m w (nm n) _ _ hn rfl (Lib.hid rfl) (Lib.hid hk) (Lib.hid rfl) ?_ (Lib.hid (List.eq_nil_of_length_eq_zero f34.1)) (Lib.hid (List.eq_nil_of_length_eq_zero f34.2)) (Lib.hid hp) _ _ _ (Lib.hid rfl) rfl (Lib.hid rfl) f41.symm
    rw [hl]; cases h : (Opc.row n).name.isEmpty
    · rw [h] at f12; cases f12
    · rfl
  · rw [hk] at f12 f2 f11
    have hfl : Opc.float n = false := by cases h : Opc.float n <;> simp_all
    have hfind : Opc.find (Opc.row n).name = some n := by simpa using f2
    refine apart_yes n m w (nm n) (nm m) _ hn hm rfl (Lib.hid rfl) (Lib.hid rfl) (Lib.hid hk) (Lib.hid hfl) (Lib.hid (by rw [hl]; exact hfind)) ?_ ?_ (Opc.sigP n) (Opc.sigR n) (Opc.plain n) _ _ (Lib.hid rfl) (Lib.hid rfl) (Lib.hid f31) (Lib.hid rfl) (Lib.hid rfl) (Lib.hid rfl) _ _ _ (Lib.hid rfl) rfl (Lib.hid rfl) f41.symm ?_
    · rw [hl]; cases h : (Opc.row n).name.isEmpty
      · rfl
      · rw [h] at f12; cases f12
    · intro hd
      rw [hl, hlm]
      cases h : ((Opc.row n).name == (Opc.row m).name)
      · rfl
      · have he : (Opc.row n).name = (Opc.row m).name := by simpa using h
        rw [← he, hfind] at f2m
        rw [← he] at f1m
        have hnm : n ≠ m := by intro h; subst h; simp at hd
        rcases f2m with h' | h'
        · rw [h'] at f1m
          rw [← f1m.2] at f12
          cases f12
        · injection h' with h'; exact absurd h' hnm
    · cases hp : Opc.plain n
      · rw [hp] at f34
        simp only [Bool.false_eq_true, false_or] at f34
        exact .inl ⟨rfl, f34.1, f34.2⟩
      · rw [hp] at f42
        simp only [Bool.true_eq_false, false_or] at f42
        clear f31 f34 f41
        generalize (Opc.sigP n).length = P at *
        generalize (Opc.sigR n).length = R at *
        generalize (Opc.form n == 6) = a at *
        have hP : P = 0 ∨ P = 1 ∨ P = 2 := by omega
        have hR : R = 0 ∨ R = 1 := by omega
        rcases hP with rfl | rfl | rfl <;> rcases hR with rfl | rfl <;> cases a <;> simp_all
end Go.Proofs.Ytejjkihggdmdlaa
