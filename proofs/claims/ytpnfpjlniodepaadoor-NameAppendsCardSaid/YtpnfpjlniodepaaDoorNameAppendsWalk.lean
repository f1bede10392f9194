/-
  The walk over the statement NameAppends: for every slice of bytes and every string it answers true and leaves all memory that was there as it was.
-/
import Derived.Test.YtpnfpjlniodepaaDoorNmKnown
import Derived.Test.YtpnfpjlniodepaaDoorLebRefFew
import Derived.Deep.RegionWith
import Derived.IntWalk
namespace Go.Proofs.YtpnfpjlniodepaaDoor
open Go.RowKit
theorem bytes_join (a b c : List UInt8) (s : ByteArray) (h : s.data.toList = c) : ByteArray.mk a.toArray ++ ByteArray.mk b.toArray ++ s = ByteArray.mk (a ++ b ++ c).toArray := by
  subst h
  obtain ⟨⟨l⟩⟩ := s
  rw [ByteArray.mk_append_mk, ByteArray.mk_append_mk]
theorem below2 {w1 w w' : World} {X : Prop} (h : Below w1.heap.size w1 w ∧ X) (hb : Below w.heap.size w w') : Below w1.heap.size w1 w' := h.1.trans (hb.mono h.1.size)
theorem len_join (a b : List UInt8) (s : ByteArray) (n : Nat) (h : n = a.length) : n + b.length + s.size = (a ++ b ++ s.data.toList).length := by
  subst h
  simp
  omega
set_option maxHeartbeats 2000000 in
set_option maxRecDepth 100000 in
theorem appends_walk (A : Option Addr) (l : List UInt8) (n c : Nat) (s : ByteArray) (w : World) (hn : n = l.length) (hs : s.size ≤ 9223372036854775807) (hm : n ≤ 9223372036854775807) (hA : Has w w.heap.size A l) (hT : Tb w) :
    Calls Tryd.prog 4 #[.slice A n c, .string s] w fun e w' => e = .returned (.bool true) ∧ Below w.heap.size w w' := by
  have HA := Lib.hid hA
  have HN := Lib.hid hn
  have HT := Lib.hid hT
  clear hA hn hT
  by_cases hbig : 5000 < n
  · have hbi : (5000 : Int) < (n : Int) := by omega
    go_enter Tryd.func4, Tryd.ntmps4
    go_wp2_with fail
    refine (rows_any _ HT.out).mono ?_
    rintro e w1 ⟨rfl, hb⟩
    have HB := Lib.hid hb
    clear hb
    go_wp2_with fail
    go_ret
    exact ⟨rfl, HB.out⟩
  have hbi : decide ((5000 : Int) < (n : Int)) = false := by simp; omega
  by_cases hbig2 : 5000 < s.size
  · have hbi2 : (5000 : Int) < (s.size : Int) := by omega
    go_enter Tryd.func4, Tryd.ntmps4
    go_wp2_with fail
    refine (rows_any _ HT.out).mono ?_
    rintro e w1 ⟨rfl, hb⟩
    have HB := Lib.hid hb
    clear hb
    go_wp2_with fail
    go_ret
    exact ⟨rfl, HB.out⟩
  have hbi2 : decide ((5000 : Int) < (s.size : Int)) = false := by simp; omega
  go_enter Tryd.func4, Tryd.ntmps4
  go_wp2_with fail
  refine (rows_any _ HT.out).mono ?_
  rintro e w1 ⟨rfl, hb⟩
  have HB1 := Lib.hid hb
  have HA1 := Lib.hid (HA.out.on hb)
  clear hb
  have CA := Lib.hid (fun W (h : Below w1.heap.size w1 W) => nappend_any A l n c s W HN.out (by omega) (by omega) (HA1.out.on h))
  have CF := Lib.hid (fun W => c13u s.size W (by omega))
  have KV := Lib.hid (fun W (h : Below w1.heap.size w1 W) => run_str (HA1.out.on h) HN.out c)
  have hj := bytes_join l (Leb.encU s.size) s.data.toList s rfl
  have HJ := Lib.hid hj
  have HLN := Lib.hid (len_join l (Leb.encU s.size) s n HN.out)
  have he10 := Leb.encU_le10 s.size (by omega)
  have hs1 : ¬ 9223372036854775807 < l.length + (Leb.encU s.size).length := by have := HN.out; omega
  have hs2 : ¬ 9223372036854775807 < l.length + (Leb.encU s.size).length + s.size := by have := HN.out; omega
  have hs3 : ¬ 9223372036854775807 < l.length + ((Leb.encU s.size).length + s.size) := by have := HN.out; omega
  clear he10
  have hw : IntKind.u64.wrap (s.size : Int) = (s.size : Int) := IntWalk.u64_in _ (by omega)
  clear hj
  generalize Leb.encU s.size = E at CA CF HJ HLN hs1 hs2 hs3
  generalize l ++ E ++ s.data.toList = X at CA HJ HLN
  go_wp2_with fail
  have hB0 : Below w1.heap.size w1 w1.drew := Below.drew (Below.refl _ _)
  have HB0 := Lib.hid hB0
  have hcv0 := KV.out _ hB0
  clear hB0
  go_region_with (first | (go_at_call 12; refine (CA.out _ HB0.out).mono ?_; rintro e w4 ⟨v4, rfl, ho4, hb4⟩; obtain ⟨A4, c4, rfl, hx1, hx2, hh4⟩ := Has.own ho4; have hB4 := Lib.hid (HB0.out.trans (hb4.mono HB0.out.size)); have HH4 := Lib.hid hh4; have hcv4 := run_str hh4 rfl c4; have hcv40 := KV.out _ hB4.out; clear ho4 hx1 hh4) | (go_at_call 13; refine (CF.out _).mono ?_; rintro e w5 ⟨v5, rfl, ho5, hb5⟩; obtain ⟨A5, c5, rfl, hy1, hy2, hh5⟩ := Has.own ho5; have hB5 := Lib.hid (hB4.out.trans (hb5.mono hB4.out.size)); have hcv5 := run_str hh5 rfl c5; have hcv45 := run_str (HH4.out.on hb5) rfl c4; have hcv50 := KV.out _ hB5.out))
  all_goals
    have hb45 := hB5.out
    go_wp2
    go_ret
    refine ⟨?_, HB1.out.trans (hb45.mono HB1.out.size)⟩
    have hX : (X == (ByteArray.mk l.toArray ++ ByteArray.mk E.toArray ++ s).toList) = true := by
      rw [HJ.out, ByteArray.toList_eq]; simp
    exact congrArg Ending.returned (congrArg Value.bool hX)
end Go.Proofs.YtpnfpjlniodepaaDoor
