/-
  The walk over the statement NameJoins: for every two strings and every int it answers true and leaves all memory that was there as it was.
-/
import Derived.Test.YtpnfpjlniodepaaDoorNmKnown
import Derived.Test.YtpnfpjlniodepaaDoorStrBytes
import Derived.Test.YtpnfpjlniodepaaDoorU8Join
import Derived.Lib.IndexBytes
namespace Go.Proofs.YtpnfpjlniodepaaDoor
open Go.RowKit
theorem size_list (s : ByteArray) : s.size = s.data.toList.length := by simp
set_option maxHeartbeats 4000000 in
set_option maxRecDepth 100000 in
theorem joins_walk (a b : ByteArray) (cut : Int) (w : World) (ha : a.size ≤ 140737488355328) (hb : b.size ≤ 140737488355328) (hT : Tb w) :
    Calls Tryd.prog 6 #[.string a, .string b, .int .i64 cut] w fun e w' => e = .returned (.bool true) ∧ Below w.heap.size w w' := by
  have HT := Lib.hid hT
  clear hT
  by_cases hbig : 5000 < a.size + b.size
  · have hbi : (5000 : Int) < (a.size : Int) + (b.size : Int) := by omega
    go_enter Tryd.func6, Tryd.ntmps6
    go_wp2_with fail
    refine (rows_any _ HT.out).mono ?_
    rintro e w1 ⟨rfl, hb⟩
    have HB := Lib.hid hb
    clear hb
    go_wp2_with fail
    go_ret
    exact ⟨rfl, HB.out⟩
  have hbi : ¬ (5000 : Int) < (a.size : Int) + (b.size : Int) := by omega
  have hov : ¬ 9223372036854775807 < a.size + b.size := by omega
  have CJ := Lib.hid (U8.text_join _ a.data.toList b.data.toList (Nat.le_refl _))
  have CC := Lib.hid (fun k => U8.text_cut _ a.data.toList k (Nat.le_refl _))
  have HSA := Lib.hid (size_list a)
  have HSB := Lib.hid (size_list b)
  go_enter Tryd.func6, Tryd.ntmps6
  go_wp2_with fail
  refine (rows_any _ HT.out).mono ?_
  rintro e w1 ⟨rfl, hb1⟩
  have HB1 := Lib.hid hb1
  have HT1 := Lib.hid (HT.out.on hb1)
  clear hb1 HT
  obtain ⟨A2, c2, w2, hr2, hc2, hh2, hb2⟩ := bytes_of w1 a
  have HB2 := Lib.hid (HB1.out.trans (hb2.mono HB1.out.size))
  have HT2 := Lib.hid (HT1.out.on hb2)
  have HH2 := Lib.hid hh2
  clear hb2 hh2 HB1 HT1
  go_wp2_with fail
  refine (nvalid_any A2 a.data.toList a.size c2 _ HSA.out (by omega) hc2 HH2.out HT2.out).mono ?_
  rintro e w3 ⟨rfl, hb3⟩
  have HB3 := Lib.hid (HB2.out.trans (hb3.mono HB2.out.size))
  have HT3 := Lib.hid (HT2.out.on hb3)
  clear hb3 hr2 HH2 HB2 HT2
  cases hta : U8.text a.data.toList with
  | false =>
    obtain ⟨A4, c4, w4, hr4, hc4, hh4, hb4⟩ := bytes_of w3 a
    have HB4 := Lib.hid (HB3.out.trans (hb4.mono HB3.out.size))
    have HT4 := Lib.hid (HT3.out.on hb4)
    have HH4 := Lib.hid hh4
    clear hb4 hh4
    go_wp2_with fail
    refine (nvalid_any A4 a.data.toList a.size c4 _ HSA.out (by omega) hc4 HH4.out HT4.out).mono ?_
    rintro e w5 ⟨rfl, hb5⟩
    have HB5 := Lib.hid (HB4.out.trans (hb5.mono HB4.out.size))
    clear hb5
    rw [hta]
    go_wp2_with fail
    go_ret
    exact ⟨rfl, HB5.out⟩
  | true =>
    obtain ⟨A4, c4, w4, hr4, hc4, hh4, hb4⟩ := bytes_of w3 b
    have HB4 := Lib.hid (HB3.out.trans (hb4.mono HB3.out.size))
    have HT4 := Lib.hid (HT3.out.on hb4)
    have HH4 := Lib.hid hh4
    clear hb4 hh4
    go_wp2_with fail
    refine (nvalid_any A4 b.data.toList b.size c4 _ HSB.out (by omega) hc4 HH4.out HT4.out).mono ?_
    rintro e w5 ⟨rfl, hb5⟩
    have HB5 := Lib.hid (HB4.out.trans (hb5.mono HB4.out.size))
    have HT5 := Lib.hid (HT4.out.on hb5)
    clear hb5 hr4 HH4 HT4 HB4 HB3 HT3
    -- THE REST
    cases htb : U8.text b.data.toList with
    | false =>
      obtain ⟨A6, c6, w6, hr6, hc6, hh6, hb6⟩ := bytes_of w5 a
      have HB6 := Lib.hid (HB5.out.trans (hb6.mono HB5.out.size))
      have HT6 := Lib.hid (HT5.out.on hb6)
      have HH6 := Lib.hid hh6
      clear hb6 hh6
      go_wp2_with fail
      refine (nvalid_any A6 a.data.toList a.size c6 _ HSA.out (by omega) hc6 HH6.out HT6.out).mono ?_
      rintro e w7 ⟨rfl, hb7⟩
      have HB7 := Lib.hid (HB6.out.trans (hb7.mono HB6.out.size))
      have HT7 := Lib.hid (HT6.out.on hb7)
      clear hb7 hr6 HH6 HT6 HB6 HB5 HT5
      rw [hta]
      by_cases h0 : cut < 0
      · go_wp2_with fail
        go_ret
        exact ⟨rfl, HB7.out⟩
      have h0b : decide (cut < 0) = false := by simpa using h0
      by_cases h00 : (a.size : Int) ≤ cut
      · go_wp2_with fail
        go_ret
        exact ⟨rfl, HB7.out⟩
      have h00b : decide ((a.size : Int) ≤ cut) = false := by simpa using h00
      obtain ⟨k, rfl⟩ : ∃ k : Nat, cut = (k : Int) := ⟨cut.toNat, by omega⟩
      have hk : k < a.size := by omega
      have hki : (k : Int) < (a.size : Int) := by omega
      have hkle : (k : Int) ≤ (a.size : Int) := by omega
      have hk0 : (0 : Int) ≤ (k : Int) := by omega
      obtain ⟨x, hx⟩ : ∃ x, a[k].toNat = x := ⟨_, rfl⟩
      have hxb : U8.byte a.data.toList k = x := by
        rw [← hx]; unfold U8.byte; rw [List.getD_eq_getElem?_getD, List.getElem?_eq_getElem (by have := HSA.out; omega)]; rfl
      have HX := Lib.hid hxb
      clear hxb h0 h00 h0b h00b
      have h00b : decide ((a.size : Int) ≤ (k : Int)) = false := by simp; omega
      have h00c : decide (a.size ≤ k) = false := by simp; omega
      by_cases h1 : 128 ≤ x
      · have h1i : (128 : Int) ≤ (x : Int) := by omega
        by_cases h2 : x ≤ 191
        · have h2i : (x : Int) ≤ 191 := by omega
          have hcut := CC.out k hta (by have := HSA.out; omega)
          rw [HX.out, show (decide (128 ≤ x) && decide (x ≤ 191)) = true by simp [h1, h2]] at hcut
          have hl1 : (a.extract 0 k).data.toList = a.data.toList.take k := by rw [Lib.extract_data]; simp
          have hl2 : (a.extract k a.size).data.toList = a.data.toList.drop k := Lib.extract_to_end a k
          obtain ⟨A8, c8, w8, hr8, hc8, hh8, hb8⟩ := bytes_of w7 (a.extract 0 k)
          have HB8 := Lib.hid (HB7.out.trans (hb8.mono HB7.out.size))
          have HT8 := Lib.hid (HT7.out.on hb8)
          have HH8 := Lib.hid hh8
          clear hb8 hh8
          have hz1 : (a.extract 0 k).size = k := by rw [ByteArray.size_extract]; omega
          rw [hz1] at hr8 hc8
          have HZ1 := Lib.hid hz1
          clear hz1
          go_wp2_with fail
          refine (nvalid_any A8 (a.extract 0 k).data.toList k c8 _ (by rw [← size_list]; exact HZ1.out.symm) (by omega) hc8 HH8.out HT8.out).mono ?_
          rintro e w9 ⟨rfl, hb9⟩
          have HB9 := Lib.hid (HB8.out.trans (hb9.mono HB8.out.size))
          have HT9 := Lib.hid (HT8.out.on hb9)
          clear hb9 hr8 HH8 HB8 HT8
          rw [hl1, hcut.1]
          obtain ⟨Aa, ca, wa, hra, hca, hha, hba⟩ := bytes_of w9 (a.extract k a.size)
          have HBa := Lib.hid (HB9.out.trans (hba.mono HB9.out.size))
          have HTa := Lib.hid (HT9.out.on hba)
          have HHa := Lib.hid hha
          clear hba hha
          have hz2 : (a.extract k a.size).size = a.size - k := by rw [ByteArray.size_extract]; omega
          rw [hz2] at hra hca
          have HZ2 := Lib.hid hz2
          clear hz2
          go_wp2_with fail
          refine (nvalid_any Aa (a.extract k a.size).data.toList (a.size - k) ca _ (by rw [← size_list]; exact HZ2.out.symm) (by omega) hca HHa.out HTa.out).mono ?_
          rintro e wb ⟨rfl, hbb⟩
          have HBb := Lib.hid (HBa.out.trans (hbb.mono HBa.out.size))
          clear hbb
          rw [hl2, hcut.2]
          go_wp2_with fail
          go_ret
          exact ⟨rfl, HBb.out⟩
        · have h2i : decide ((x : Int) ≤ 191) = false := by simp; omega
          have hcut := CC.out k hta (by have := HSA.out; omega)
          rw [HX.out, show (decide (128 ≤ x) && decide (x ≤ 191)) = false by simp [h1, h2]] at hcut
          have hl1 : (a.extract 0 k).data.toList = a.data.toList.take k := by rw [Lib.extract_data]; simp
          have hl2 : (a.extract k a.size).data.toList = a.data.toList.drop k := Lib.extract_to_end a k
          obtain ⟨A8, c8, w8, hr8, hc8, hh8, hb8⟩ := bytes_of w7 (a.extract 0 k)
          have HB8 := Lib.hid (HB7.out.trans (hb8.mono HB7.out.size))
          have HT8 := Lib.hid (HT7.out.on hb8)
          have HH8 := Lib.hid hh8
          clear hb8 hh8
          have hz1 : (a.extract 0 k).size = k := by rw [ByteArray.size_extract]; omega
          rw [hz1] at hr8 hc8
          have HZ1 := Lib.hid hz1
          clear hz1
          go_wp2_with fail
          refine (nvalid_any A8 (a.extract 0 k).data.toList k c8 _ (by rw [← size_list]; exact HZ1.out.symm) (by omega) hc8 HH8.out HT8.out).mono ?_
          rintro e w9 ⟨rfl, hb9⟩
          have HB9 := Lib.hid (HB8.out.trans (hb9.mono HB8.out.size))
          have HT9 := Lib.hid (HT8.out.on hb9)
          clear hb9 hr8 HH8 HB8 HT8
          rw [hl1, hcut.1]
          obtain ⟨Aa, ca, wa, hra, hca, hha, hba⟩ := bytes_of w9 (a.extract k a.size)
          have HBa := Lib.hid (HB9.out.trans (hba.mono HB9.out.size))
          have HTa := Lib.hid (HT9.out.on hba)
          have HHa := Lib.hid hha
          clear hba hha
          have hz2 : (a.extract k a.size).size = a.size - k := by rw [ByteArray.size_extract]; omega
          rw [hz2] at hra hca
          have HZ2 := Lib.hid hz2
          clear hz2
          go_wp2_with fail
          refine (nvalid_any Aa (a.extract k a.size).data.toList (a.size - k) ca _ (by rw [← size_list]; exact HZ2.out.symm) (by omega) hca HHa.out HTa.out).mono ?_
          rintro e wb ⟨rfl, hbb⟩
          have HBb := Lib.hid (HBa.out.trans (hbb.mono HBa.out.size))
          clear hbb
          rw [hl2, hcut.2]
          go_wp2_with fail
          go_ret
          exact ⟨rfl, HBb.out⟩
      · have h1i : decide ((128 : Int) ≤ (x : Int)) = false := by simp; omega
        have hcut := CC.out k hta (by have := HSA.out; omega)
        rw [HX.out, show (decide (128 ≤ x) && decide (x ≤ 191)) = false by simp [h1]] at hcut
        have hl1 : (a.extract 0 k).data.toList = a.data.toList.take k := by rw [Lib.extract_data]; simp
        have hl2 : (a.extract k a.size).data.toList = a.data.toList.drop k := Lib.extract_to_end a k
        obtain ⟨A8, c8, w8, hr8, hc8, hh8, hb8⟩ := bytes_of w7 (a.extract 0 k)
        have HB8 := Lib.hid (HB7.out.trans (hb8.mono HB7.out.size))
        have HT8 := Lib.hid (HT7.out.on hb8)
        have HH8 := Lib.hid hh8
        clear hb8 hh8
        have hz1 : (a.extract 0 k).size = k := by rw [ByteArray.size_extract]; omega
        rw [hz1] at hr8 hc8
        have HZ1 := Lib.hid hz1
        clear hz1
        go_wp2_with fail
        refine (nvalid_any A8 (a.extract 0 k).data.toList k c8 _ (by rw [← size_list]; exact HZ1.out.symm) (by omega) hc8 HH8.out HT8.out).mono ?_
        rintro e w9 ⟨rfl, hb9⟩
        have HB9 := Lib.hid (HB8.out.trans (hb9.mono HB8.out.size))
        have HT9 := Lib.hid (HT8.out.on hb9)
        clear hb9 hr8 HH8 HB8 HT8
        rw [hl1, hcut.1]
        obtain ⟨Aa, ca, wa, hra, hca, hha, hba⟩ := bytes_of w9 (a.extract k a.size)
        have HBa := Lib.hid (HB9.out.trans (hba.mono HB9.out.size))
        have HTa := Lib.hid (HT9.out.on hba)
        have HHa := Lib.hid hha
        clear hba hha
        have hz2 : (a.extract k a.size).size = a.size - k := by rw [ByteArray.size_extract]; omega
        rw [hz2] at hra hca
        have HZ2 := Lib.hid hz2
        clear hz2
        go_wp2_with fail
        refine (nvalid_any Aa (a.extract k a.size).data.toList (a.size - k) ca _ (by rw [← size_list]; exact HZ2.out.symm) (by omega) hca HHa.out HTa.out).mono ?_
        rintro e wb ⟨rfl, hbb⟩
        have HBb := Lib.hid (HBa.out.trans (hbb.mono HBa.out.size))
        clear hbb
        rw [hl2, hcut.2]
        go_wp2_with fail
        go_ret
        exact ⟨rfl, HBb.out⟩
    | true =>
      have hj := CJ.out hta htb
      have hl : (a ++ b).data.toList = a.data.toList ++ b.data.toList := by simp
      rw [← hl] at hj
      obtain ⟨Aj, cj, wj, hrj, hcj, hhj, hbj⟩ := bytes_of w5 (a ++ b)
      have HBj := Lib.hid (HB5.out.trans (hbj.mono HB5.out.size))
      have HTj := Lib.hid (HT5.out.on hbj)
      have HHj := Lib.hid hhj
      have hzj : (a ++ b).size = a.size + b.size := ByteArray.size_append
      rw [hzj] at hrj hcj
      have HZj := Lib.hid hzj
      clear hbj hhj HB5 HT5 hzj hl
      go_wp2_with fail
      refine (nvalid_any Aj (a ++ b).data.toList (a.size + b.size) cj _ (by rw [← size_list]; exact HZj.out.symm) (by omega) hcj HHj.out HTj.out).mono ?_
      rintro e wk ⟨rfl, hbk⟩
      have HB5 := Lib.hid (HBj.out.trans (hbk.mono HBj.out.size))
      have HT5 := Lib.hid (HTj.out.on hbk)
      clear hbk hrj HHj HTj HBj
      rw [hj]
      obtain ⟨A6, c6, w6, hr6, hc6, hh6, hb6⟩ := bytes_of wk a
      have HB6 := Lib.hid (HB5.out.trans (hb6.mono HB5.out.size))
      have HT6 := Lib.hid (HT5.out.on hb6)
      have HH6 := Lib.hid hh6
      clear hb6 hh6
      go_wp2_with fail
      refine (nvalid_any A6 a.data.toList a.size c6 _ HSA.out (by omega) hc6 HH6.out HT6.out).mono ?_
      rintro e w7 ⟨rfl, hb7⟩
      have HB7 := Lib.hid (HB6.out.trans (hb7.mono HB6.out.size))
      have HT7 := Lib.hid (HT6.out.on hb7)
      clear hb7 hr6 HH6 HT6 HB6 HB5 HT5
      rw [hta]
      by_cases h0 : cut < 0
      · go_wp2_with fail
        go_ret
        exact ⟨rfl, HB7.out⟩
      have h0b : decide (cut < 0) = false := by simpa using h0
      by_cases h00 : (a.size : Int) ≤ cut
      · go_wp2_with fail
        go_ret
        exact ⟨rfl, HB7.out⟩
      have h00b : decide ((a.size : Int) ≤ cut) = false := by simpa using h00
      obtain ⟨k, rfl⟩ : ∃ k : Nat, cut = (k : Int) := ⟨cut.toNat, by omega⟩
      have hk : k < a.size := by omega
      have hki : (k : Int) < (a.size : Int) := by omega
      have hkle : (k : Int) ≤ (a.size : Int) := by omega
      have hk0 : (0 : Int) ≤ (k : Int) := by omega
      obtain ⟨x, hx⟩ : ∃ x, a[k].toNat = x := ⟨_, rfl⟩
      have hxb : U8.byte a.data.toList k = x := by
        rw [← hx]; unfold U8.byte; rw [List.getD_eq_getElem?_getD, List.getElem?_eq_getElem (by have := HSA.out; omega)]; rfl
      have HX := Lib.hid hxb
      clear hxb h0 h00 h0b h00b
      have h00b : decide ((a.size : Int) ≤ (k : Int)) = false := by simp; omega
      have h00c : decide (a.size ≤ k) = false := by simp; omega
      by_cases h1 : 128 ≤ x
      · have h1i : (128 : Int) ≤ (x : Int) := by omega
        by_cases h2 : x ≤ 191
        · have h2i : (x : Int) ≤ 191 := by omega
          have hcut := CC.out k hta (by have := HSA.out; omega)
          rw [HX.out, show (decide (128 ≤ x) && decide (x ≤ 191)) = true by simp [h1, h2]] at hcut
          have hl1 : (a.extract 0 k).data.toList = a.data.toList.take k := by rw [Lib.extract_data]; simp
          have hl2 : (a.extract k a.size).data.toList = a.data.toList.drop k := Lib.extract_to_end a k
          obtain ⟨A8, c8, w8, hr8, hc8, hh8, hb8⟩ := bytes_of w7 (a.extract 0 k)
          have HB8 := Lib.hid (HB7.out.trans (hb8.mono HB7.out.size))
          have HT8 := Lib.hid (HT7.out.on hb8)
          have HH8 := Lib.hid hh8
          clear hb8 hh8
          have hz1 : (a.extract 0 k).size = k := by rw [ByteArray.size_extract]; omega
          rw [hz1] at hr8 hc8
          have HZ1 := Lib.hid hz1
          clear hz1
          go_wp2_with fail
          refine (nvalid_any A8 (a.extract 0 k).data.toList k c8 _ (by rw [← size_list]; exact HZ1.out.symm) (by omega) hc8 HH8.out HT8.out).mono ?_
          rintro e w9 ⟨rfl, hb9⟩
          have HB9 := Lib.hid (HB8.out.trans (hb9.mono HB8.out.size))
          have HT9 := Lib.hid (HT8.out.on hb9)
          clear hb9 hr8 HH8 HB8 HT8
          rw [hl1, hcut.1]
          obtain ⟨Aa, ca, wa, hra, hca, hha, hba⟩ := bytes_of w9 (a.extract k a.size)
          have HBa := Lib.hid (HB9.out.trans (hba.mono HB9.out.size))
          have HTa := Lib.hid (HT9.out.on hba)
          have HHa := Lib.hid hha
          clear hba hha
          have hz2 : (a.extract k a.size).size = a.size - k := by rw [ByteArray.size_extract]; omega
          rw [hz2] at hra hca
          have HZ2 := Lib.hid hz2
          clear hz2
          go_wp2_with fail
          refine (nvalid_any Aa (a.extract k a.size).data.toList (a.size - k) ca _ (by rw [← size_list]; exact HZ2.out.symm) (by omega) hca HHa.out HTa.out).mono ?_
          rintro e wb ⟨rfl, hbb⟩
          have HBb := Lib.hid (HBa.out.trans (hbb.mono HBa.out.size))
          clear hbb
          rw [hl2, hcut.2]
          go_wp2_with fail
          go_ret
          exact ⟨rfl, HBb.out⟩
        · have h2i : decide ((x : Int) ≤ 191) = false := by simp; omega
          have hcut := CC.out k hta (by have := HSA.out; omega)
          rw [HX.out, show (decide (128 ≤ x) && decide (x ≤ 191)) = false by simp [h1, h2]] at hcut
          have hl1 : (a.extract 0 k).data.toList = a.data.toList.take k := by rw [Lib.extract_data]; simp
          have hl2 : (a.extract k a.size).data.toList = a.data.toList.drop k := Lib.extract_to_end a k
          obtain ⟨A8, c8, w8, hr8, hc8, hh8, hb8⟩ := bytes_of w7 (a.extract 0 k)
          have HB8 := Lib.hid (HB7.out.trans (hb8.mono HB7.out.size))
          have HT8 := Lib.hid (HT7.out.on hb8)
          have HH8 := Lib.hid hh8
          clear hb8 hh8
          have hz1 : (a.extract 0 k).size = k := by rw [ByteArray.size_extract]; omega
          rw [hz1] at hr8 hc8
          have HZ1 := Lib.hid hz1
          clear hz1
          go_wp2_with fail
          refine (nvalid_any A8 (a.extract 0 k).data.toList k c8 _ (by rw [← size_list]; exact HZ1.out.symm) (by omega) hc8 HH8.out HT8.out).mono ?_
          rintro e w9 ⟨rfl, hb9⟩
          have HB9 := Lib.hid (HB8.out.trans (hb9.mono HB8.out.size))
          have HT9 := Lib.hid (HT8.out.on hb9)
          clear hb9 hr8 HH8 HB8 HT8
          rw [hl1, hcut.1]
          obtain ⟨Aa, ca, wa, hra, hca, hha, hba⟩ := bytes_of w9 (a.extract k a.size)
          have HBa := Lib.hid (HB9.out.trans (hba.mono HB9.out.size))
          have HTa := Lib.hid (HT9.out.on hba)
          have HHa := Lib.hid hha
          clear hba hha
          have hz2 : (a.extract k a.size).size = a.size - k := by rw [ByteArray.size_extract]; omega
          rw [hz2] at hra hca
          have HZ2 := Lib.hid hz2
          clear hz2
          go_wp2_with fail
          refine (nvalid_any Aa (a.extract k a.size).data.toList (a.size - k) ca _ (by rw [← size_list]; exact HZ2.out.symm) (by omega) hca HHa.out HTa.out).mono ?_
          rintro e wb ⟨rfl, hbb⟩
          have HBb := Lib.hid (HBa.out.trans (hbb.mono HBa.out.size))
          clear hbb
          rw [hl2, hcut.2]
          go_wp2_with fail
          go_ret
          exact ⟨rfl, HBb.out⟩
      · have h1i : decide ((128 : Int) ≤ (x : Int)) = false := by simp; omega
        have hcut := CC.out k hta (by have := HSA.out; omega)
        rw [HX.out, show (decide (128 ≤ x) && decide (x ≤ 191)) = false by simp [h1]] at hcut
        have hl1 : (a.extract 0 k).data.toList = a.data.toList.take k := by rw [Lib.extract_data]; simp
        have hl2 : (a.extract k a.size).data.toList = a.data.toList.drop k := Lib.extract_to_end a k
        obtain ⟨A8, c8, w8, hr8, hc8, hh8, hb8⟩ := bytes_of w7 (a.extract 0 k)
        have HB8 := Lib.hid (HB7.out.trans (hb8.mono HB7.out.size))
        have HT8 := Lib.hid (HT7.out.on hb8)
        have HH8 := Lib.hid hh8
        clear hb8 hh8
        have hz1 : (a.extract 0 k).size = k := by rw [ByteArray.size_extract]; omega
        rw [hz1] at hr8 hc8
        have HZ1 := Lib.hid hz1
        clear hz1
        go_wp2_with fail
        refine (nvalid_any A8 (a.extract 0 k).data.toList k c8 _ (by rw [← size_list]; exact HZ1.out.symm) (by omega) hc8 HH8.out HT8.out).mono ?_
        rintro e w9 ⟨rfl, hb9⟩
        have HB9 := Lib.hid (HB8.out.trans (hb9.mono HB8.out.size))
        have HT9 := Lib.hid (HT8.out.on hb9)
        clear hb9 hr8 HH8 HB8 HT8
        rw [hl1, hcut.1]
        obtain ⟨Aa, ca, wa, hra, hca, hha, hba⟩ := bytes_of w9 (a.extract k a.size)
        have HBa := Lib.hid (HB9.out.trans (hba.mono HB9.out.size))
        have HTa := Lib.hid (HT9.out.on hba)
        have HHa := Lib.hid hha
        clear hba hha
        have hz2 : (a.extract k a.size).size = a.size - k := by rw [ByteArray.size_extract]; omega
        rw [hz2] at hra hca
        have HZ2 := Lib.hid hz2
        clear hz2
        go_wp2_with fail
        refine (nvalid_any Aa (a.extract k a.size).data.toList (a.size - k) ca _ (by rw [← size_list]; exact HZ2.out.symm) (by omega) hca HHa.out HTa.out).mono ?_
        rintro e wb ⟨rfl, hbb⟩
        have HBb := Lib.hid (HBa.out.trans (hbb.mono HBa.out.size))
        clear hbb
        rw [hl2, hcut.2]
        go_wp2_with fail
        go_ret
        exact ⟨rfl, HBb.out⟩
end Go.Proofs.YtpnfpjlniodepaaDoor
