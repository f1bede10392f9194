/-
  The reader's opcode, block's type and zero.
-/
import Derived.Test.YtnechkmdmjhhbaaInsRd2
namespace Go.Proofs.Ytnechkmdmjhhbaa
open Go.RowKit Ins
theorem rdPost_ok {α : Type} {R : Nat} {A : Option Addr} {c : Nat} {l : List UInt8} {p : Nat} {w : World} {x : α} {n : Nat} {f : World → Value → α → Prop} {e : Ending} {w' : World} (h : RdPost R A c l p w (.ok (x, n)) f e w') :
    ∃ v, e = .returned v ∧ f w' v x ∧ Rd w' R A c l (p + n) ∧ Mod (· = R) w w' := h
theorem rdPost_err {α : Type} {R : Nat} {A : Option Addr} {c : Nat} {l : List UInt8} {p : Nat} {w : World} {k : Nat} {f : World → Value → α → Prop} {e : Ending} {w' : World} (h : RdPost R A c l p w (.error k) f e w') :
    e = erred k ∧ Mod (· = R) w w' := h
theorem rdByte_err60 {l : List UInt8} {e : Nat} (h : rdByte l = .error e) : e = 60 := (rdByte_err h).1
set_option maxRecDepth 100000 in
set_option maxHeartbeats 1000000 in
theorem opcode_any (R : Nat) (A : Option Addr) (c : Nat) (l : List UInt8) (p : Nat) (w : World) (h : Rd w R A c l p) :
    Calls Try.prog 43 #[.pointer (some ⟨R, 0, none⟩)] w (RdPost R A c l p w (rdOp (l.drop p)) fun _ v x => v = .int .u8 (x : Int)) := by
  have HC := Lib.hid (byte_any R A c l p w h)
  clear h
  unfold rdOp
  cases hr : rdByte (l.drop p) with
  | error e =>
    rw [hr] at HC
    obtain rfl := rdByte_err60 hr
    go_enter Try.func43, Try.ntmps43
    go_wp2_with (go_at_call 57; refine HC.out.mono ?_; rintro e w1 ⟨rfl, hm⟩)
    exact ⟨rfl, rfl, hm⟩
  | ok q =>
    obtain ⟨x, k⟩ := q
    rw [hr] at HC
    have HF := Lib.hid (float_any (x : Int))
    have HK := Lib.hid (known_any (x : Int))
    clear hr
    dsimp only
    cases hf : Opc.float x with
    | true =>
      rw [hf] at HF
      rw [if_pos rfl]
      clear hf
      go_enter Try.func43, Try.ntmps43
      go_wp2_with (first | (go_at_call 57; refine HC.out.mono ?_; rintro e w1 ⟨v, rfl, rfl, hr, hm⟩; have HR := Lib.hid hr; have HM := Lib.hid hm; clear hr hm) | (go_at_call 51; refine (HF.out _).mono ?_; rintro e w2 ⟨rfl, rfl⟩))
      exact ⟨rfl, rfl, HM.out⟩
    | false =>
      rw [hf] at HF
      rw [if_neg (by simp)]
      clear hf
      cases hk : Opc.known x with
      | true =>
        rw [hk] at HK
        rw [if_pos rfl]
        clear hk
        go_enter Try.func43, Try.ntmps43
        go_wp2_with (first | (go_at_call 57; refine HC.out.mono ?_; rintro e w1 ⟨v, rfl, rfl, hr, hm⟩; have HR := Lib.hid hr; have HM := Lib.hid hm; clear hr hm) | (go_at_call 51; refine (HF.out _).mono ?_; rintro e w2 ⟨rfl, rfl⟩) | (go_at_call 30; refine (HK.out _).mono ?_; rintro e w2 ⟨rfl, rfl⟩))
        go_ret
        exact ⟨_, rfl, rfl, HR.out, HM.out⟩
      | false =>
        rw [hk] at HK
        rw [if_neg (by simp)]
        clear hk
        go_enter Try.func43, Try.ntmps43
        go_wp2_with (first | (go_at_call 57; refine HC.out.mono ?_; rintro e w1 ⟨v, rfl, rfl, hr, hm⟩; have HR := Lib.hid hr; have HM := Lib.hid hm; clear hr hm) | (go_at_call 51; refine (HF.out _).mono ?_; rintro e w2 ⟨rfl, rfl⟩) | (go_at_call 30; refine (HK.out _).mono ?_; rintro e w2 ⟨rfl, rfl⟩))
        exact ⟨rfl, rfl, HM.out⟩
set_option maxRecDepth 100000 in
set_option maxHeartbeats 1000000 in
theorem blockType_any (R : Nat) (A : Option Addr) (c : Nat) (l : List UInt8) (p : Nat) (w : World) (h : Rd w R A c l p) :
    Calls Try.prog 44 #[.pointer (some ⟨R, 0, none⟩)] w (RdPost R A c l p w (rdBlock (l.drop p)) fun _ v x => v = .int .u32 (x : Int)) := by
  have HC := Lib.hid (byte_any R A c l p w h)
  clear h
  unfold rdBlock
  cases hr : rdByte (l.drop p) with
  | error e =>
    rw [hr] at HC
    obtain rfl := rdByte_err60 hr
    go_enter Try.func44, Try.ntmps44
    go_wp2_with (go_at_call 57; refine HC.out.mono ?_; rintro e w1 ⟨rfl, hm⟩)
    exact ⟨rfl, rfl, hm⟩
  | ok q =>
    obtain ⟨x, k⟩ := q
    rw [hr] at HC
    have hx := (rdByte_ok hr).1
    have HB := Lib.hid (block_any x)
    have hw : IntKind.u32.wrap (x : Int) = (x : Int) := IntWalk.u32_in _ (by omega)
    clear hr
    dsimp only
    by_cases hf : x = 125 ∨ x = 124
    · rw [if_pos hf]
      have h1 : ((x : Int) == 125) = true ∨ ((x : Int) == 125) = false ∧ ((x : Int) == 124) = true := by
        rcases hf with rfl | rfl
        · exact .inl rfl
        · exact .inr ⟨rfl, rfl⟩
      clear hf
      rcases h1 with h1 | ⟨h1, h2⟩
      all_goals
        go_enter Try.func44, Try.ntmps44
        go_wp2_with (first | (go_at_call 57; refine HC.out.mono ?_; rintro e w1 ⟨v, rfl, rfl, hr, hm⟩; have HR := Lib.hid hr; have HM := Lib.hid hm; clear hr hm))
        exact ⟨rfl, rfl, HM.out⟩
    · rw [if_neg hf]
      have h1 : ((x : Int) == 125) = false := by simp; omega
      have h2 : ((x : Int) == 124) = false := by simp; omega
      clear hf
      cases hk : Ins.blockB x with
      | true =>
        rw [hk] at HB
        rw [if_pos rfl]
        clear hk
        go_enter Try.func44, Try.ntmps44
        go_wp2_with (first | (go_at_call 57; refine HC.out.mono ?_; rintro e w1 ⟨v, rfl, rfl, hr, hm⟩; have HR := Lib.hid hr; have HM := Lib.hid hm; clear hr hm) | (go_at_call 32; refine (HB.out _).mono ?_; rintro e w2 ⟨rfl, rfl⟩))
        go_ret
        exact ⟨_, rfl, rfl, HR.out, HM.out⟩
      | false =>
        rw [hk] at HB
        rw [if_neg (by simp)]
        clear hk
        go_enter Try.func44, Try.ntmps44
        go_wp2_with (first | (go_at_call 57; refine HC.out.mono ?_; rintro e w1 ⟨v, rfl, rfl, hr, hm⟩; have HR := Lib.hid hr; have HM := Lib.hid hm; clear hr hm) | (go_at_call 32; refine (HB.out _).mono ?_; rintro e w2 ⟨rfl, rfl⟩))
        exact ⟨rfl, rfl, HM.out⟩
/-- A zero, as a reader's method that tells nothing. -/
def rdZ (l : List UInt8) : Except Nat (Unit × Nat) := match rdZero l with
  | .error e => .error e
  | .ok k => .ok ((), k)
set_option maxRecDepth 100000 in
set_option maxHeartbeats 1000000 in
theorem zero_any (R : Nat) (A : Option Addr) (c : Nat) (l : List UInt8) (p : Nat) (w : World) (h : Rd w R A c l p) :
    Calls Try.prog 47 #[.pointer (some ⟨R, 0, none⟩)] w (RdPost R A c l p w (rdZ (l.drop p)) fun _ v _ => v = .tuple #[]) := by
  have HC := Lib.hid (byte_any R A c l p w h)
  clear h
  unfold rdZ rdZero
  cases hr : rdByte (l.drop p) with
  | error e =>
    rw [hr] at HC
    obtain rfl := rdByte_err60 hr
    go_enter Try.func47, Try.ntmps47
    go_wp2_with (go_at_call 57; refine HC.out.mono ?_; rintro e w1 ⟨rfl, hm⟩)
    exact ⟨rfl, rfl, hm⟩
  | ok q =>
    obtain ⟨x, k⟩ := q
    rw [hr] at HC
    clear hr
    dsimp only
    by_cases hx : x = 0
    · subst hx
      rw [if_pos rfl]
      go_enter Try.func47, Try.ntmps47
      go_wp2_with (go_at_call 57; refine HC.out.mono ?_; rintro e w1 ⟨v, rfl, rfl, hr, hm⟩; have HR := Lib.hid hr; have HM := Lib.hid hm; clear hr hm)
      go_end0
      exact ⟨_, rfl, rfl, HR.out, HM.out⟩
    · rw [if_neg hx]
      have h1 : ((x : Int) != 0) = true := by simp; omega
      clear hx
      go_enter Try.func47, Try.ntmps47
      go_wp2_with (go_at_call 57; refine HC.out.mono ?_; rintro e w1 ⟨v, rfl, rfl, hr, hm⟩; have HR := Lib.hid hr; have HM := Lib.hid hm; clear hr hm)
      exact ⟨rfl, rfl, HM.out⟩
end Go.Proofs.Ytnechkmdmjhhbaa
