/-
  The walk over the statement NameBack: for every string and every slice of bytes it answers true and leaves all memory that was there as it was.
-/
import Derived.Test.YtpnfpjlniodepaaDoorNmKnown
import Derived.Test.YtpnfpjlniodepaaDoorStrBytes
import Derived.Test.YtpnfpjlniodepaaDoorLebBits2
namespace Nm
theorem back (s r : List UInt8) (h : s.length ≤ 5000) : ok (Leb.encU s.length ++ s ++ r) = U8.text s ∧ (U8.text s = true → str (Leb.encU s.length ++ s ++ r) = s ∧ cnt (Leb.encU s.length ++ s ++ r) = (Leb.encU s.length).length + s.length) := by
  have e1 : Leb.run (Leb.encU s.length ++ s ++ r) = (Leb.encU s.length).length := by rw [List.append_assoc]; exact Leb.run_encU _ _
  have e2 : Leb.used (Leb.encU s.length ++ s ++ r) = s.length := by rw [List.append_assoc]; exact Leb.used_encU _ _
  have e3 : Leb.okU (Leb.encU s.length ++ s ++ r) 32 = true := by
    rw [List.append_assoc, Leb.okU_encU _ _ _ (by omega) (by decide) (by decide)]
    have hb : Go.Lib.bitLen s.length ≤ 32 := (Leb.bitLen_iff s.length 32 (by omega) (by omega)).2 (by omega)
    exact decide_eq_true (by omega)
  have e4 : ((Leb.encU s.length ++ s ++ r).drop (Leb.run (Leb.encU s.length ++ s ++ r))).take (Leb.used (Leb.encU s.length ++ s ++ r)) = s := by
    rw [e1, e2, List.append_assoc, List.drop_left, List.take_left]
  have h1 : ok (Leb.encU s.length ++ s ++ r) = U8.text s := by
    rw [ok_text e3 (by rw [e1, e2]; simp), e4]
  refine ⟨h1, fun ht => ?_⟩
  rw [ht] at h1
  unfold str cnt
  rw [if_pos h1, if_pos h1, e4, e1, e2]
  exact ⟨rfl, rfl⟩
theorem back_no (s r : List UInt8) (h : s.length ≤ 5000) (ht : U8.text s = false) : ok (Leb.encU s.length ++ s ++ r) = false ∧ str (Leb.encU s.length ++ s ++ r) = [] ∧ cnt (Leb.encU s.length ++ s ++ r) = 0 := by
  have h1 := (back s r h).1
  rw [ht] at h1
  unfold str cnt
  rw [h1]
  exact ⟨rfl, rfl, rfl⟩
end Nm
namespace Go.Proofs.YtpnfpjlniodepaaDoor
open Go.RowKit
theorem own_cap {w : World} {base e n : Nat} {A : Option Addr} {m c : Nat} {xs : List Value} (h : w.ownsRow base e 1 (.slice A m c) n xs) : c ≤ 9223372036854775807 := by
  rcases h.2 with ⟨h, _⟩ | ⟨g, cap, cur, h, _, _, _, hcm, _⟩
  · injection h with _ _ h; omega
  · injection h with _ _ h; unfold maxLen at hcm; omega
set_option maxHeartbeats 2000000 in
set_option maxRecDepth 100000 in
theorem back_walk (s : ByteArray) (A : Option Addr) (l : List UInt8) (n c : Nat) (w : World) (hs : s.size ≤ 9223372036854775807) (hn : n = l.length) (hm : n ≤ 9223372036854775807) (hA : Has w w.heap.size A l) (hT : Tb w) :
    Calls Tryd.prog 5 #[.string s, .slice A n c] w fun e w' => e = .returned (.bool true) ∧ Below w.heap.size w w' := by
  have HA := Lib.hid hA
  have HN := Lib.hid hn
  have HT := Lib.hid hT
  clear hA hn hT
  by_cases hbig : 5000 < s.size
  · have hbi : (5000 : Int) < (s.size : Int) := by omega
    go_enter Tryd.func5, Tryd.ntmps5
    go_wp2_with fail
    refine (rows_any _ HT.out).mono ?_
    rintro e w1 ⟨rfl, hb⟩
    have HB := Lib.hid hb
    clear hb
    go_wp2_with fail
    go_ret
    exact ⟨rfl, HB.out⟩
  have hbi : decide ((5000 : Int) < (s.size : Int)) = false := by simp; omega
  by_cases hbig2 : 5000 < n
  · have hbi2 : (5000 : Int) < (n : Int) := by omega
    go_enter Tryd.func5, Tryd.ntmps5
    go_wp2_with fail
    refine (rows_any _ HT.out).mono ?_
    rintro e w1 ⟨rfl, hb⟩
    have HB := Lib.hid hb
    clear hb
    go_wp2_with fail
    go_ret
    exact ⟨rfl, HB.out⟩
  have hbi2 : decide ((5000 : Int) < (n : Int)) = false := by simp; omega
  go_enter Tryd.func5, Tryd.ntmps5
  go_wp2_with fail
  refine (rows_any _ HT.out).mono ?_
  rintro e w1 ⟨rfl, hb⟩
  have HB1 := Lib.hid hb
  have HA1 := Lib.hid (HA.out.on hb)
  have HT1 := Lib.hid (HT.out.on hb)
  clear hb
  go_wp2_with fail
  have hsl : s.data.toList.length = s.size := by simp
  have HSL := Lib.hid hsl
  have h10 := Leb.encU_le10 s.size (by omega)
  refine (nappend_any none [] 0 0 s w1 rfl (by omega) (by omega) (Has.nil _ _ _)).mono ?_
  rintro e w2 ⟨v1, rfl, ho2, hb2⟩
  obtain ⟨A4, c4, rfl, h4c, h4l, hh4⟩ := Has.own ho2
  have HA2 := HA1.out.on hb2
  obtain ⟨v2, w3, hr3, ho3, hb3⟩ := run_append_has w2 w1.heap.size _ n c _ _ l A ho2 HA2 HN.out (by omega) hb2.size
  obtain ⟨A5, c5, rfl, h5c, h5l, hh5⟩ := Has.own ho3
  have h5m := own_cap ho3
  have hXl : (0 + (Leb.encU s.size).length + s.size + n) = ((Leb.encU s.data.toList.length ++ s.data.toList ++ l)).length := by rw [hsl]; have := HN.out; simp; omega
  have hhX : Has w3 w3.heap.size A5 (Leb.encU s.data.toList.length ++ s.data.toList ++ l) := by rw [hsl]; simpa using hh5
  have HB3' := Lib.hid (hb2.trans (hb3.mono (Nat.le_refl _)))
  have HB3 := Lib.hid (HB1.out.trans (HB3'.out.mono HB1.out.size))
  have HT3 := Lib.hid (HT1.out.on HB3'.out)
  have HR3 := Lib.hid hr3
  have HX := Lib.hid hhX
  have HXL := Lib.hid hXl
  have hm1 : (0 + (Leb.encU s.size).length + s.size) ≤ 5010 := by omega
  have HM1 := Lib.hid (rfl : 0 + (Leb.encU s.size).length + s.size = 0 + (Leb.encU s.size).length + s.size)
  have CB := Lib.hid (Nm.back s.data.toList l (by omega))
  have CN := Lib.hid (Nm.back_no s.data.toList l (by omega))
  obtain ⟨m1, hm1e⟩ : ∃ m, 0 + (Leb.encU s.size).length + s.size = m := ⟨_, rfl⟩
  have HCNT := Lib.hid (show (Leb.encU s.data.toList.length).length + s.data.toList.length = m1 by rw [hsl, ← hm1e]; omega)
  rw [hm1e] at HR3 HXL hm1 h5c h4c ⊢
  clear hsl h10 ho2 hb2 HA2 hr3 ho3 hb3 hh5 hh4 h4l h5l hhX hXl HM1 hm1e
  generalize Leb.encU s.data.toList.length ++ s.data.toList ++ l = X at *
  have CT := Lib.hid (ntake_any A5 X (m1 + n) c5 w3 HXL.out (by omega) h5c h5m HX.out HT3.out)
  go_wp2_with (at_builtin; refine wpList_appends rfl (.tmp 22) (.tmp 23) 22 rfl _ _ _ w3 rfl rfl HR3.out ?_)
  refine CT.out.mono ?_
  rintro e w4 ⟨rfl, hb⟩
  have HB4 := Lib.hid (HB3.out.trans (hb.mono HB3.out.size))
  have HT4 := Lib.hid (HT3.out.on hb)
  clear hb CT
  obtain ⟨A6, c6, w5, hr5, h6c, hh6, hb5⟩ := bytes_of (w4) s
  have HB5 := Lib.hid (HB4.out.trans (hb5.mono HB4.out.size))
  have HT5 := Lib.hid (HT4.out.on hb5)
  have HH6 := Lib.hid hh6
  clear hb5 hh6
  generalize Nm.str X = st at *
  generalize Nm.cnt X = k at *
  generalize Nm.ok X = ok at *
  go_wp2_with fail
  refine (nvalid_any A6 s.data.toList s.size c6 _ HSL.out.symm (by omega) h6c HH6.out HT5.out).mono ?_
  rintro e w6 ⟨rfl, hb⟩
  have HB6 := Lib.hid (HB5.out.trans (hb.mono HB5.out.size))
  clear hb hr5
  cases ht : U8.text s.data.toList with
  | false =>
    obtain ⟨h1, h2, h3⟩ := CN.out ht
    subst h1 h2 h3
    clear CB CN ht
    go_wp2_with fail
    go_ret
    exact ⟨rfl, HB6.out⟩
  | true =>
    obtain ⟨h0, h1⟩ := CB.out
    obtain ⟨h2, h3⟩ := h1 ht
    rw [ht] at h0
    rw [HCNT.out] at h3
    subst h0 h2 h3
    clear CB CN h1 ht
    have hq : (s.data.toList == s.toList) = true := by rw [ByteArray.toList_eq]; simp
    go_wp2_with fail
    go_ret
    exact ⟨rfl, HB6.out⟩
end Go.Proofs.YtpnfpjlniodepaaDoor
