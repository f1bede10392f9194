/-
  The document's One and Valid: what they tell of any bytes.
-/
import Derived.Test.YtanhgpdeoffmfaaDoorU8One
namespace Go.Proofs.YtanhgpdeoffmfaaDoor
open Go.RowKit
theorem Has.byteAt {w : World} {B : Nat} {ad : Addr} {l : List UInt8} (h : Has w B (some ad) l) {k : Nat} (hk : k < l.length) : w.cell? (ad.add k) = some (.int .u8 (U8.byte l k : Int)) := by
  obtain ⟨ad', h1, _, h3⟩ := h k (l.getD k 0) (by rw [List.getD_eq_getElem?_getD, List.getElem?_eq_getElem hk]; rfl)
  obtain rfl := Option.some.inj h1
  exact h3
def OnePost (l : List UInt8) (w : World) (e : Ending) (w' : World) : Prop := e = .returned (.int .i64 (U8.one l : Int)) ∧ w = w'
theorem onePost {l : List UInt8} {w : World} {a : Int} (h : (U8.one l : Int) = a) : OnePost l w (.returned (.int .i64 a)) w := ⟨by rw [h], rfl⟩
set_option maxRecDepth 100000 in
theorem one_low (ad : Addr) (l : List UInt8) (n c B : Nat) (w : World) (hn : n = l.length) (h0 : 0 < n) (hA : Has w B (some ad) l) (hlow : U8.byte l 0 < 128) :
    Calls Tryd.prog 43 #[.slice (some ad) n c] w (OnePost l w) := by
  have h1 : U8.one l = 1 := by unfold U8.one; rw [if_neg (by omega), if_pos hlow]
  have H1 := Lib.hid h1
  have c0 := hA.byte0 (by omega)
  have i0 : (0 : Int) < (n : Int) := by omega
  have hn1 : ¬ (n : Int) < 1 := by omega
  clear hn hA h1
  generalize U8.byte l 0 = b at *
  have hb : (b : Int) < 128 := by omega
  have hb1 : ¬ (1114111 < (b : Int)) := by omega
  have hb1' : decide ((1114111 : Int) < (b : Int)) = false := by simpa using hb1
  have hb2 : decide ((55296 : Int) ≤ (b : Int)) = false := by simp; omega
  have hb3 : ¬ ((b : Int) < 0) := by omega
  go_enter Tryd.func43, Tryd.ntmps43
  go_wp2_with fail
  go_loop [3, 6] (fun cv i => cv = .int .u32 (b : Int) ∧ i = .int .i64 1) (fun _ _ => 0)
  case atStart => exact ⟨rfl, rfl⟩
  case round =>
    obtain ⟨rfl, rfl⟩ := hrel
    go_wp2_with fail
    go_ret
    exact onePost (by rw [H1.out]; rfl)
theorem one_off (ad : Addr) (l : List UInt8) (n c B : Nat) (w : World) (hn : n = l.length) (h0 : 0 < n) (hA : Has w B (some ad) l) (hoff : (128 ≤ U8.byte l 0 ∧ U8.byte l 0 < 192) ∨ 248 ≤ U8.byte l 0) :
    Calls Tryd.prog 43 #[.slice (some ad) n c] w (OnePost l w) := by
  have H1 := Lib.hid (U8.one_none hoff)
  have c0 := hA.byte0 (by omega)
  have i0 : (0 : Int) < (n : Int) := by omega
  have hb0 := U8.byte_lt l 0
  clear hn hA
  generalize U8.byte l 0 = b at *
  rcases hoff with ⟨g1, g2⟩ | g1
  · have k1 : ¬ (b : Int) < 128 := by omega
    have k2 : decide ((192 : Int) ≤ (b : Int)) = false := by simp; omega
    have k3 : decide ((224 : Int) ≤ (b : Int)) = false := by simp; omega
    have k4 : decide ((240 : Int) ≤ (b : Int)) = false := by simp; omega
    go_enter Tryd.func43, Tryd.ntmps43
    go_wp2_with fail
    go_ret
    exact onePost (by rw [H1.out]; rfl)
  · have k1 : ¬ (b : Int) < 128 := by omega
    have k2 : (192 : Int) ≤ (b : Int) := by omega
    have k3 : (224 : Int) ≤ (b : Int) := by omega
    have k4 : (240 : Int) ≤ (b : Int) := by omega
    have k5 : decide ((b : Int) < 224) = false := by simp; omega
    have k6 : decide ((b : Int) < 240) = false := by simp; omega
    have k7 : decide ((b : Int) < 248) = false := by simp; omega
    go_enter Tryd.func43, Tryd.ntmps43
    go_wp2_with fail
    go_ret
    exact onePost (by rw [H1.out]; rfl)
set_option maxHeartbeats 2000000 in
theorem one_kind2 (ad : Addr) (l : List UInt8) (n c B : Nat) (w : World) (hn : n = l.length) (h0 : 0 < n) (hA : Has w B (some ad) l) (hlo : 192 ≤ U8.byte l 0) (hhi : U8.byte l 0 < 224) :
    Calls Tryd.prog 43 #[.slice (some ad) n c] w (OnePost l w) := by
  have hK : U8.Kind (U8.byte l 0) 2 192 128 := .inl ⟨rfl, rfl, rfl, hlo, hhi⟩
  have HK := Lib.hid hK
  have c0 := hA.byte0 (by omega)
  have i0 : (0 : Int) < (n : Int) := by omega
  have HA := Lib.hid hA
  have HN := Lib.hid hn
  clear hn hA hK
  obtain ⟨b, hb⟩ : ∃ b, U8.byte l 0 = b := ⟨_, rfl⟩
  rw [hb] at hlo hhi c0
  have HBB := Lib.hid hb
  clear hb
  have k1 : ¬ (b : Int) < 128 := by omega
  have k2 : (192 : Int) ≤ (b : Int) := by omega
  have k3 : (b : Int) < 224 := by omega
  have kw : IntKind.u32.wrap ((b : Int) - 192) = (b : Int) - 192 := IntWalk.u32_in _ (by omega)
  by_cases hs : n < 2
  · have H1 := Lib.hid (U8.one_short HK.out (by rw [← HN.out]; exact hs))
    have hs' : (n : Int) < 2 := by omega
    go_enter Tryd.func43, Tryd.ntmps43
    go_wp2_with fail
    go_ret
    exact onePost (by rw [H1.out]; rfl)
  · have hs' : ¬ (n : Int) < 2 := by omega
    go_enter Tryd.func43, Tryd.ntmps43
    go_wp2_with fail
    go_loop [3, 6] (fun cv i => ∃ k : Nat, 1 ≤ k ∧ k ≤ 2 ∧ i = .int .i64 (k : Int) ∧ cv = .int .u32 (U8.val l (b - 192) k : Int) ∧ Hid (U8.Mids l k)) (fun _ i => 2 - (intOf i).toNat)
    case atStart => exact ⟨1, by omega, by omega, rfl, by rw [U8.val1]; go_num, Lib.hid (fun j h1 h2 => by omega)⟩
    case round =>
      obtain ⟨k, hk1, hk2, rfl, rfl, HM⟩ := hrel
      have hv := U8.val_le (l := l) (c0 := b - 192) (k := k) (by omega) HM.out (by omega)
      by_cases hlt : k < 2
      · have hkn : k < n := by omega
        have hcell := HA.out.byteAt (k := k) (by rw [← HN.out]; exact hkn)
        have hcell2 := HA.out.byte (k := k) (by rw [← HN.out]; exact hkn) (by omega)
        have hnext := U8.val_next l (b - 192) k hk1
        have hbk := U8.byte_lt l k
        obtain ⟨x, hx⟩ : ∃ x, U8.byte l k = x := ⟨_, rfl⟩
        have HX := Lib.hid hx
        obtain ⟨v, hvv⟩ : ∃ v, U8.val l (b - 192) k = v := ⟨_, rfl⟩
        rw [hvv] at hv hnext
        rw [hx] at hnext hcell hcell2 hbk
        have HNX := Lib.hid hnext
        rw [hvv]
        clear hx hvv hnext
        have hki : (k : Int) < (n : Int) := by omega
        have hk0 : (0 : Int) ≤ (k : Int) := by omega
        have hk00 : ¬ k = 0 := by omega
        have hlti : (k : Int) < 2 := by omega
        by_cases h1 : x < 128
        · have H1 := Lib.hid (U8.one_mid HK.out hk1 hlt (by rw [HX.out]; exact .inl h1))
          have h1i : (x : Int) < 128 := by omega
          go_wp2_with fail
          go_ret
          exact onePost (by rw [H1.out]; rfl)
        · have h1i : decide ((x : Int) < 128) = false := by simp; omega
          by_cases h2 : 191 < x
          · have H1 := Lib.hid (U8.one_mid HK.out hk1 hlt (by rw [HX.out]; exact .inr h2))
            have h2i : (191 : Int) < (x : Int) := by omega
            go_wp2_with fail
            go_ret
            exact onePost (by rw [H1.out]; rfl)
          · have h2i : decide ((191 : Int) < (x : Int)) = false := by simp; omega
            have w1 : IntKind.u32.wrap (64 * (v : Int)) = 64 * (v : Int) := IntWalk.u32_in _ (by omega)
            have w2 : IntKind.u32.wrap (64 * (v : Int) + (x : Int)) = 64 * (v : Int) + (x : Int) := IntWalk.u32_in _ (by omega)
            have w3 : IntKind.u32.wrap (64 * (v : Int) + (x : Int) - 128) = 64 * (v : Int) + (x : Int) - 128 := IntWalk.u32_in _ (by omega)
            have HM2 := Lib.hid (HM.out.next (by rw [HX.out]; omega))
            go_wp2_with fail
            go_round
            case rel => exact ⟨k + 1, by omega, by omega, by go_num, by rw [HNX.out]; go_num, HM2⟩
            case measure => simp [intOf]; omega
      · obtain rfl : k = 2 := by omega
        have HV := Lib.hid (U8.one_val HK.out (by rw [← HN.out]; omega) HM.out)
        rw [HBB.out] at HV
        generalize U8.val l (b - 192) 2 = v at *
        by_cases h1 : v < 128
        · have H1 := Lib.hid (HV.out.trans (if_pos (.inl h1)))
          have h1i : (v : Int) < 128 := by omega
          go_wp2_with fail
          go_ret
          exact onePost (by rw [H1.out]; rfl)
        · have h1i : decide ((v : Int) < 128) = false := by simp; omega
          by_cases h2 : 1114111 < v
          · have H1 := Lib.hid (HV.out.trans (if_pos (.inr (.inl h2))))
            have h2i : (1114111 : Int) < (v : Int) := by omega
            go_wp2_with fail
            go_ret
            exact onePost (by rw [H1.out]; rfl)
          · have h2i : decide ((1114111 : Int) < (v : Int)) = false := by simp; omega
            by_cases h3 : 55296 ≤ v
            · have h3i : (55296 : Int) ≤ (v : Int) := by omega
              by_cases h4 : v ≤ 57343
              · have H1 := Lib.hid (HV.out.trans (if_pos (.inr (.inr ⟨h3, h4⟩))))
                have h4i : (v : Int) ≤ 57343 := by omega
                go_wp2_with fail
                go_ret
                exact onePost (by rw [H1.out]; rfl)
              · have H1 := Lib.hid (HV.out.trans (if_neg (by omega)))
                have h4i : decide ((v : Int) ≤ 57343) = false := by simp; omega
                go_wp2_with fail
                go_ret
                exact onePost (by rw [H1.out]; rfl)
            · have H1 := Lib.hid (HV.out.trans (if_neg (by omega)))
              have h3i : decide ((55296 : Int) ≤ (v : Int)) = false := by simp; omega
              go_wp2_with fail
              go_ret
              exact onePost (by rw [H1.out]; rfl)
set_option maxHeartbeats 2000000 in
theorem one_kind3 (ad : Addr) (l : List UInt8) (n c B : Nat) (w : World) (hn : n = l.length) (h0 : 0 < n) (hA : Has w B (some ad) l) (hlo : 224 ≤ U8.byte l 0) (hhi : U8.byte l 0 < 240) :
    Calls Tryd.prog 43 #[.slice (some ad) n c] w (OnePost l w) := by
  have hK : U8.Kind (U8.byte l 0) 3 224 2048 := .inr (.inl ⟨rfl, rfl, rfl, hlo, hhi⟩)
  have HK := Lib.hid hK
  have c0 := hA.byte0 (by omega)
  have i0 : (0 : Int) < (n : Int) := by omega
  have HA := Lib.hid hA
  have HN := Lib.hid hn
  clear hn hA hK
  obtain ⟨b, hb⟩ : ∃ b, U8.byte l 0 = b := ⟨_, rfl⟩
  rw [hb] at hlo hhi c0
  have HBB := Lib.hid hb
  clear hb
  have k1 : ¬ (b : Int) < 128 := by omega
  have k2 : (192 : Int) ≤ (b : Int) := by omega
  have k3 : decide ((b : Int) < 224) = false := by simp; omega
  have k4 : (224 : Int) ≤ (b : Int) := by omega
  have k5 : (b : Int) < 240 := by omega
  have kw : IntKind.u32.wrap ((b : Int) - 224) = (b : Int) - 224 := IntWalk.u32_in _ (by omega)
  by_cases hs : n < 3
  · have H1 := Lib.hid (U8.one_short HK.out (by rw [← HN.out]; exact hs))
    have hs' : (n : Int) < 3 := by omega
    go_enter Tryd.func43, Tryd.ntmps43
    go_wp2_with fail
    go_ret
    exact onePost (by rw [H1.out]; rfl)
  · have hs' : ¬ (n : Int) < 3 := by omega
    go_enter Tryd.func43, Tryd.ntmps43
    go_wp2_with fail
    go_loop [3, 6] (fun cv i => ∃ k : Nat, 1 ≤ k ∧ k ≤ 3 ∧ i = .int .i64 (k : Int) ∧ cv = .int .u32 (U8.val l (b - 224) k : Int) ∧ Hid (U8.Mids l k)) (fun _ i => 3 - (intOf i).toNat)
    case atStart => exact ⟨1, by omega, by omega, rfl, by rw [U8.val1]; go_num, Lib.hid (fun j h1 h2 => by omega)⟩
    case round =>
      obtain ⟨k, hk1, hk2, rfl, rfl, HM⟩ := hrel
      have hv := U8.val_le (l := l) (c0 := b - 224) (k := k) (by omega) HM.out (by omega)
      by_cases hlt : k < 3
      · have hkn : k < n := by omega
        have hcell := HA.out.byteAt (k := k) (by rw [← HN.out]; exact hkn)
        have hcell2 := HA.out.byte (k := k) (by rw [← HN.out]; exact hkn) (by omega)
        have hnext := U8.val_next l (b - 224) k hk1
        have hbk := U8.byte_lt l k
        obtain ⟨x, hx⟩ : ∃ x, U8.byte l k = x := ⟨_, rfl⟩
        have HX := Lib.hid hx
        obtain ⟨v, hvv⟩ : ∃ v, U8.val l (b - 224) k = v := ⟨_, rfl⟩
        rw [hvv] at hv hnext
        rw [hx] at hnext hcell hcell2 hbk
        have HNX := Lib.hid hnext
        rw [hvv]
        clear hx hvv hnext
        have hki : (k : Int) < (n : Int) := by omega
        have hk0 : (0 : Int) ≤ (k : Int) := by omega
        have hk00 : ¬ k = 0 := by omega
        have hlti : (k : Int) < 3 := by omega
        by_cases h1 : x < 128
        · have H1 := Lib.hid (U8.one_mid HK.out hk1 hlt (by rw [HX.out]; exact .inl h1))
          have h1i : (x : Int) < 128 := by omega
          go_wp2_with fail
          go_ret
          exact onePost (by rw [H1.out]; rfl)
        · have h1i : decide ((x : Int) < 128) = false := by simp; omega
          by_cases h2 : 191 < x
          · have H1 := Lib.hid (U8.one_mid HK.out hk1 hlt (by rw [HX.out]; exact .inr h2))
            have h2i : (191 : Int) < (x : Int) := by omega
            go_wp2_with fail
            go_ret
            exact onePost (by rw [H1.out]; rfl)
          · have h2i : decide ((191 : Int) < (x : Int)) = false := by simp; omega
            have w1 : IntKind.u32.wrap (64 * (v : Int)) = 64 * (v : Int) := IntWalk.u32_in _ (by omega)
            have w2 : IntKind.u32.wrap (64 * (v : Int) + (x : Int)) = 64 * (v : Int) + (x : Int) := IntWalk.u32_in _ (by omega)
            have w3 : IntKind.u32.wrap (64 * (v : Int) + (x : Int) - 128) = 64 * (v : Int) + (x : Int) - 128 := IntWalk.u32_in _ (by omega)
            have HM2 := Lib.hid (HM.out.next (by rw [HX.out]; omega))
            go_wp2_with fail
            go_round
            case rel => exact ⟨k + 1, by omega, by omega, by go_num, by rw [HNX.out]; go_num, HM2⟩
            case measure => simp [intOf]; omega
      · obtain rfl : k = 3 := by omega
        have HV := Lib.hid (U8.one_val HK.out (by rw [← HN.out]; omega) HM.out)
        rw [HBB.out] at HV
        generalize U8.val l (b - 224) 3 = v at *
        by_cases h1 : v < 2048
        · have H1 := Lib.hid (HV.out.trans (if_pos (.inl h1)))
          have h1i : (v : Int) < 2048 := by omega
          go_wp2_with fail
          go_ret
          exact onePost (by rw [H1.out]; rfl)
        · have h1i : decide ((v : Int) < 2048) = false := by simp; omega
          by_cases h2 : 1114111 < v
          · have H1 := Lib.hid (HV.out.trans (if_pos (.inr (.inl h2))))
            have h2i : (1114111 : Int) < (v : Int) := by omega
            go_wp2_with fail
            go_ret
            exact onePost (by rw [H1.out]; rfl)
          · have h2i : decide ((1114111 : Int) < (v : Int)) = false := by simp; omega
            by_cases h3 : 55296 ≤ v
            · have h3i : (55296 : Int) ≤ (v : Int) := by omega
              by_cases h4 : v ≤ 57343
              · have H1 := Lib.hid (HV.out.trans (if_pos (.inr (.inr ⟨h3, h4⟩))))
                have h4i : (v : Int) ≤ 57343 := by omega
                go_wp2_with fail
                go_ret
                exact onePost (by rw [H1.out]; rfl)
              · have H1 := Lib.hid (HV.out.trans (if_neg (by omega)))
                have h4i : decide ((v : Int) ≤ 57343) = false := by simp; omega
                go_wp2_with fail
                go_ret
                exact onePost (by rw [H1.out]; rfl)
            · have H1 := Lib.hid (HV.out.trans (if_neg (by omega)))
              have h3i : decide ((55296 : Int) ≤ (v : Int)) = false := by simp; omega
              go_wp2_with fail
              go_ret
              exact onePost (by rw [H1.out]; rfl)
set_option maxHeartbeats 2000000 in
theorem one_kind4 (ad : Addr) (l : List UInt8) (n c B : Nat) (w : World) (hn : n = l.length) (h0 : 0 < n) (hA : Has w B (some ad) l) (hlo : 240 ≤ U8.byte l 0) (hhi : U8.byte l 0 < 248) :
    Calls Tryd.prog 43 #[.slice (some ad) n c] w (OnePost l w) := by
  have hK : U8.Kind (U8.byte l 0) 4 240 65536 := .inr (.inr ⟨rfl, rfl, rfl, hlo, hhi⟩)
  have HK := Lib.hid hK
  have c0 := hA.byte0 (by omega)
  have i0 : (0 : Int) < (n : Int) := by omega
  have HA := Lib.hid hA
  have HN := Lib.hid hn
  clear hn hA hK
  obtain ⟨b, hb⟩ : ∃ b, U8.byte l 0 = b := ⟨_, rfl⟩
  rw [hb] at hlo hhi c0
  have HBB := Lib.hid hb
  clear hb
  have k1 : ¬ (b : Int) < 128 := by omega
  have k2 : (192 : Int) ≤ (b : Int) := by omega
  have k3 : decide ((b : Int) < 224) = false := by simp; omega
  have k4 : (224 : Int) ≤ (b : Int) := by omega
  have k5 : decide ((b : Int) < 240) = false := by simp; omega
  have k6 : (240 : Int) ≤ (b : Int) := by omega
  have k7 : (b : Int) < 248 := by omega
  have kw : IntKind.u32.wrap ((b : Int) - 240) = (b : Int) - 240 := IntWalk.u32_in _ (by omega)
  by_cases hs : n < 4
  · have H1 := Lib.hid (U8.one_short HK.out (by rw [← HN.out]; exact hs))
    have hs' : (n : Int) < 4 := by omega
    go_enter Tryd.func43, Tryd.ntmps43
    go_wp2_with fail
    go_ret
    exact onePost (by rw [H1.out]; rfl)
  · have hs' : ¬ (n : Int) < 4 := by omega
    go_enter Tryd.func43, Tryd.ntmps43
    go_wp2_with fail
    go_loop [3, 6] (fun cv i => ∃ k : Nat, 1 ≤ k ∧ k ≤ 4 ∧ i = .int .i64 (k : Int) ∧ cv = .int .u32 (U8.val l (b - 240) k : Int) ∧ Hid (U8.Mids l k)) (fun _ i => 4 - (intOf i).toNat)
    case atStart => exact ⟨1, by omega, by omega, rfl, by rw [U8.val1]; go_num, Lib.hid (fun j h1 h2 => by omega)⟩
    case round =>
      obtain ⟨k, hk1, hk2, rfl, rfl, HM⟩ := hrel
      have hv := U8.val_le (l := l) (c0 := b - 240) (k := k) (by omega) HM.out (by omega)
      by_cases hlt : k < 4
      · have hkn : k < n := by omega
        have hcell := HA.out.byteAt (k := k) (by rw [← HN.out]; exact hkn)
        have hcell2 := HA.out.byte (k := k) (by rw [← HN.out]; exact hkn) (by omega)
        have hnext := U8.val_next l (b - 240) k hk1
        have hbk := U8.byte_lt l k
        obtain ⟨x, hx⟩ : ∃ x, U8.byte l k = x := ⟨_, rfl⟩
        have HX := Lib.hid hx
        obtain ⟨v, hvv⟩ : ∃ v, U8.val l (b - 240) k = v := ⟨_, rfl⟩
        rw [hvv] at hv hnext
        rw [hx] at hnext hcell hcell2 hbk
        have HNX := Lib.hid hnext
        rw [hvv]
        clear hx hvv hnext
        have hki : (k : Int) < (n : Int) := by omega
        have hk0 : (0 : Int) ≤ (k : Int) := by omega
        have hk00 : ¬ k = 0 := by omega
        have hlti : (k : Int) < 4 := by omega
        by_cases h1 : x < 128
        · have H1 := Lib.hid (U8.one_mid HK.out hk1 hlt (by rw [HX.out]; exact .inl h1))
          have h1i : (x : Int) < 128 := by omega
          go_wp2_with fail
          go_ret
          exact onePost (by rw [H1.out]; rfl)
        · have h1i : decide ((x : Int) < 128) = false := by simp; omega
          by_cases h2 : 191 < x
          · have H1 := Lib.hid (U8.one_mid HK.out hk1 hlt (by rw [HX.out]; exact .inr h2))
            have h2i : (191 : Int) < (x : Int) := by omega
            go_wp2_with fail
            go_ret
            exact onePost (by rw [H1.out]; rfl)
          · have h2i : decide ((191 : Int) < (x : Int)) = false := by simp; omega
            have w1 : IntKind.u32.wrap (64 * (v : Int)) = 64 * (v : Int) := IntWalk.u32_in _ (by omega)
            have w2 : IntKind.u32.wrap (64 * (v : Int) + (x : Int)) = 64 * (v : Int) + (x : Int) := IntWalk.u32_in _ (by omega)
            have w3 : IntKind.u32.wrap (64 * (v : Int) + (x : Int) - 128) = 64 * (v : Int) + (x : Int) - 128 := IntWalk.u32_in _ (by omega)
            have HM2 := Lib.hid (HM.out.next (by rw [HX.out]; omega))
            go_wp2_with fail
            go_round
            case rel => exact ⟨k + 1, by omega, by omega, by go_num, by rw [HNX.out]; go_num, HM2⟩
            case measure => simp [intOf]; omega
      · obtain rfl : k = 4 := by omega
        have HV := Lib.hid (U8.one_val HK.out (by rw [← HN.out]; omega) HM.out)
        rw [HBB.out] at HV
        generalize U8.val l (b - 240) 4 = v at *
        by_cases h1 : v < 65536
        · have H1 := Lib.hid (HV.out.trans (if_pos (.inl h1)))
          have h1i : (v : Int) < 65536 := by omega
          go_wp2_with fail
          go_ret
          exact onePost (by rw [H1.out]; rfl)
        · have h1i : decide ((v : Int) < 65536) = false := by simp; omega
          by_cases h2 : 1114111 < v
          · have H1 := Lib.hid (HV.out.trans (if_pos (.inr (.inl h2))))
            have h2i : (1114111 : Int) < (v : Int) := by omega
            go_wp2_with fail
            go_ret
            exact onePost (by rw [H1.out]; rfl)
          · have h2i : decide ((1114111 : Int) < (v : Int)) = false := by simp; omega
            by_cases h3 : 55296 ≤ v
            · have h3i : (55296 : Int) ≤ (v : Int) := by omega
              by_cases h4 : v ≤ 57343
              · have H1 := Lib.hid (HV.out.trans (if_pos (.inr (.inr ⟨h3, h4⟩))))
                have h4i : (v : Int) ≤ 57343 := by omega
                go_wp2_with fail
                go_ret
                exact onePost (by rw [H1.out]; rfl)
              · have H1 := Lib.hid (HV.out.trans (if_neg (by omega)))
                have h4i : decide ((v : Int) ≤ 57343) = false := by simp; omega
                go_wp2_with fail
                go_ret
                exact onePost (by rw [H1.out]; rfl)
            · have H1 := Lib.hid (HV.out.trans (if_neg (by omega)))
              have h3i : decide ((55296 : Int) ≤ (v : Int)) = false := by simp; omega
              go_wp2_with fail
              go_ret
              exact onePost (by rw [H1.out]; rfl)
theorem one_any (ad : Addr) (l : List UInt8) (n c B : Nat) (w : World) (hn : n = l.length) (h0 : 0 < n) (hA : Has w B (some ad) l) : Calls Tryd.prog 43 #[.slice (some ad) n c] w (OnePost l w) := by
  by_cases h1 : U8.byte l 0 < 128
  · exact one_low ad l n c B w hn h0 hA h1
  · by_cases h2 : U8.byte l 0 < 192
    · exact one_off ad l n c B w hn h0 hA (.inl ⟨by omega, h2⟩)
    · by_cases h3 : U8.byte l 0 < 224
      · exact one_kind2 ad l n c B w hn h0 hA (by omega) h3
      · by_cases h4 : U8.byte l 0 < 240
        · exact one_kind3 ad l n c B w hn h0 hA (by omega) h4
        · by_cases h5 : U8.byte l 0 < 248
          · exact one_kind4 ad l n c B w hn h0 hA (by omega) h5
          · exact one_off ad l n c B w hn h0 hA (.inr (by omega))
end Go.Proofs.YtanhgpdeoffmfaaDoor
