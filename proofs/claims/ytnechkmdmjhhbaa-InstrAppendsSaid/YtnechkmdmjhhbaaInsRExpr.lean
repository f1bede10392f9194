/-
  The document's ExprBytes: the bytes of instructions one behind the other, and an end; or that they are no expression's.
-/
import Derived.Test.YtnechkmdmjhhbaaInsRBytes
import Derived.Test.YtnechkmdmjhhbaaInsROpen
import Derived.Test.YtnechkmdmjhhbaaInsM
import Derived.Test.YtnechkmdmjhhbaaInsSame
namespace Go.Proofs.Ytnechkmdmjhhbaa
open Go.RowKit Ins
/-- The document's Bytes, and what it tells laid behind bytes. -/
theorem rbytes_adds (base : Nat) (v : Value) (l : List UInt8) (S : Nat → Prop) (A : Option Addr) (c : Nat) (x : I) (W : World) (hO : W.ownsRow base 5 1 v l.length (bytesOf l)) (hB : base ≤ W.heap.size) (hV : HasU W S A x.l) (hS : ∀ g, S g → g < W.heap.size) (hwf : x.wf) (hm : may x = true)
    (hxl : x.l.length < 4294967296) (hL : l.length ≤ 10000000000000) :
    Calls Try.prog 10 #[insVal x A c] W fun e w1 => ∃ A1 c1 m w2 v2, e = .returned (.slice A1 m c1) ∧ (Builtin.append_ #[22, 22] 22 #[v, .slice A1 m c1]).run Try.prog w1 = .ok v2 w2 ∧ Adds base W v w2 v2 (l ++ enc x) := by
  have hle := enc_le x hwf hxl
  refine (rbytes_any S A c x W hV hS hwf hm (by omega)).mono ?_
  rintro e w1 ⟨v1, rfl, ho1, hb1⟩
  obtain ⟨A1, c1, rfl, _, hn1, hh1⟩ := Has.own ho1
  obtain ⟨v2, w2, hr2, ha2⟩ := appends_adds w1 base (enc x).length c1 v l (enc x) A1 ((Mod.of_below (T := fun _ => False) hb1).own hO (fun _ _ h => h)) hh1 hn1 (by omega) (Nat.le_trans hB hb1.size)
  exact ⟨A1, c1, _, w2, v2, rfl, hr2, Adds.behind hb1 ha2⟩
/-- What a call of the document's ExprBytes comes to. -/
def REPost (xs : List I) (w : World) (e : Ending) (w' : World) : Prop :=
  Below w.heap.size w w' ∧ ∃ v, e = .returned (.tuple #[v, .bool (exprB xs)]) ∧ (exprB xs = true → w'.ownsRow w.heap.size 5 1 v (exprEnc xs).length (bytesOf (exprEnc xs)))
theorem rePost_no {xs : List I} {w w' : World} (h : exprB xs = false) (hb : Below w.heap.size w w') : REPost xs w (.returned (.tuple #[.slice none 0 0, .bool false])) w' :=
  ⟨hb, _, by rw [h], fun e => by rw [h] at e; cases e⟩
set_option maxRecDepth 100000 in
set_option maxHeartbeats 4000000 in
theorem rexpr_any (B : Option Addr) (xs : List I) (n cx : Nat) (w : World) (hX : HasI w (· < w.heap.size) B xs) (hn : n = xs.length) (h3 : many xs ≤ 3000) :
    Calls Try.prog 12 #[.slice B n cx] w (REPost xs w) := by
  have hwf := hX.wf
  have hxn := tot_len xs
  have htm := tot_many xs
  have hl4 : ∀ x ∈ xs, x.wf ∧ x.l.length < 4294967296 := fun x h => ⟨hwf x h, by have := many_len h; omega⟩
  have HX := Lib.hid hX
  have HL4 := Lib.hid hl4
  have HN := Lib.hid hn
  have hn3 : n ≤ 3000 := by omega
  have HTM : Hid (tot xs ≤ 15000) := Lib.hid (by omega)
  clear hX hn hwf hxn htm hl4 h3
  go_enter Try.func12, Try.ntmps12
  go_wp2_with fail
  go_loopw [4, 5, 6] (fun u o i wr => ∃ (j : Nat) (out : List UInt8) (L : List Nat), j ≤ n ∧ i = .int .i64 (j : Int) ∧ Hid (out = encAll (xs.take j)) ∧ out.length ≤ 150000 ∧ Hid (wr.ownsRow w.heap.size 5 1 u out.length (bytesOf out)) ∧ Hid (wr.ownsRow w.heap.size 3 1 o L.length (codes L)) ∧ L.length ≤ j ∧ Hid (Below w.heap.size w wr) ∧ Hid ((xs.take j).all may = true ∧ steps [] (xs.take j) = some (opensOf L))) (fun _ _ i _ => n - (intOf i).toNat)
  case atStart => exact ⟨0, [], [], by omega, rfl, Lib.hid (by simp [encAll]), by simp, Lib.hid (World.ownsRow_nil _ _ _ _), Lib.hid (World.ownsRow_nil _ _ _ _), by simp, Lib.hid (Below.refl _ _), Lib.hid ⟨rfl, rfl⟩⟩
  case round =>
    obtain ⟨j, out, L, hj, rfl, HD, hol, HO, HOP, hLj, HBW, HE⟩ := hrel
    by_cases hjn : j < n
    · obtain ⟨x, hx⟩ : ∃ x, xs[j]? = some x := ⟨_, List.getElem?_eq_getElem (by have := HN.out; omega)⟩
      obtain ⟨hwx, hxx⟩ := HL4.out x (List.mem_of_getElem? hx)
      obtain ⟨g, oo, A4, c4, rfl, hgB, _, hlc, hcm, hU, hcells⟩ := HX.out j x hx
      have hji : (j : Int) < (n : Int) := by omega
      have HSM := Lib.hid (fun (h : may x = false) => exprB_may hx h)
      have HSN := Lib.hid (fun (h : Ins.step (opensOf L) x.op = none) => exprB_step HE.out.2 hx h)
      have HSS := Lib.hid (fun (o' : List Bool) (h : Ins.step (opensOf L) x.op = some o') => steps_next HE.out.2 hx h)
      have HALL := Lib.hid (fun (h : may x = true) => all_take HE.out.1 hx h)
      have HEA := Lib.hid (encAll_take hx)
      have HLEN : Hid ((encAll (xs.take (j + 1))).length ≤ 150000) := Lib.hid (by
        have h1 := encAll_le (xs.take (j + 1)) (fun y hy => HL4.out y (List.mem_of_mem_take hy))
        have h2 := tot_take_le xs (j + 1)
        have h3 := HTM.out
        omega)
      have HSO := Lib.hid (step_openR L x.op)
      have HRO := Lib.hid (ropen_any w.heap.size u5 L x.op wr HOP.out (by omega))
      have HBY := Lib.hid (fun W (hb : Below wr.heap.size wr W) (hm : may x = true) => rbytes_adds w.heap.size u4 out (· < w.heap.size) A4 c4 x W ((Mod.of_below (T := fun _ => False) hb).own HO.out (fun _ _ h => h)) (Nat.le_trans HBW.out.size hb.size) (hU.mod (Mod.of_below (T := fun _ => False) (HBW.out.trans (hb.mono HBW.out.size))) (fun _ _ _ h => h)) (fun g hg => Nat.lt_of_lt_of_le hg (Nat.le_trans HBW.out.size hb.size)) hwx hm hxx (by omega))
      have HMY := Lib.hid (fun W => rmay_any x A4 c4 W hwx)
      have HC := Lib.hid (fun W (hb : Below wr.heap.size wr W) k u (h : (insCells x A4 c4)[k]? = some u) => ((HBW.out.trans (hb.mono HBW.out.size)).cell (p := ⟨g, oo + j * 5 + k, none⟩) hgB).trans (hcells k u h))
      obtain ⟨ys, hys⟩ : ∃ ys, ys = encAll (xs.take (j + 1)) := ⟨_, rfl⟩
      rw [← hys] at HEA HLEN
      have HYS := Lib.hid hys
      clear hx hwx hxx hcells hU hlc hcm hys
      obtain ⟨ex, hex⟩ : ∃ ex, enc x = ex := ⟨_, rfl⟩
      rw [hex] at HEA HBY
      clear hex
      generalize hmx : may x = mx at HSM HALL HBY HMY
      obtain ⟨op, xa, xb, xc, xl⟩ := x
      simp only [insVal] at HMY HBY
      simp only [insCells] at HMY HBY HC
      generalize xl.length = q at HMY HBY HC
      have hC : Hid (∀ W, Below wr.heap.size wr W → W.cell? ⟨g, oo + j * 5, none⟩ = some (.int .u8 (op : Int)) ∧ W.cell? ⟨g, oo + j * 5 + 1, none⟩ = some (.int .u32 (xa : Int)) ∧ W.cell? ⟨g, oo + j * 5 + 2, none⟩ = some (.int .u32 (xb : Int)) ∧ W.cell? ⟨g, oo + j * 5 + 3, none⟩ = some (.int .i64 xc) ∧ W.cell? ⟨g, oo + j * 5 + 4, none⟩ = some (.slice A4 q c4)) := Lib.hid (fun W hb => ⟨HC.out W hb 0 _ rfl, HC.out W hb 1 _ rfl, HC.out W hb 2 _ rfl, HC.out W hb 3 _ rfl, HC.out W hb 4 _ rfl⟩)
      obtain ⟨k0, k1, k2, k3, k4⟩ := hC.out wr (Below.refl _ _)
      clear HC hmx
      unfold ROPost at HRO
      simp only at HRO HSN HSS HSO
      cases hop : openR L op with
      | none =>
        rw [hop] at HRO HSO
        have HNO := Lib.hid (HSN.out HSO.out)
        clear hop
        go_wp2_with (go_at_call 23; refine HRO.out.mono ?_; rintro e w1 ⟨hb1, rfl⟩; have HB1 := Lib.hid (HBW.out.trans (hb1.mono HBW.out.size)); clear hb1)
        go_ret2
        exact rePost_no HNO.out HB1.out
      | some L' =>
        rw [hop] at HRO HSO
        have hLL := openR_len hop
        have HST := Lib.hid (HSS.out (opensOf L') HSO.out)
        clear hop HSN HSS HSO
        cases mx with
        | false =>
          have HNO := Lib.hid (HSM.out rfl)
          go_wp2_with (first | (go_at_call 23; refine HRO.out.mono ?_; rintro e w1 ⟨hb1, v1, rfl, _⟩; have HB1 := Lib.hid hb1; obtain ⟨p0, p1, p2, p3, p4⟩ := hC.out _ hb1; clear hb1) | (go_at_call 9; refine (HMY.out _).mono ?_; rintro e w2 ⟨rfl, hb2⟩; have HB2 := Lib.hid (HBW.out.trans ((HB1.out.trans (hb2.mono HB1.out.size)).mono HBW.out.size)); clear hb2))
          go_ret2
          exact rePost_no HNO.out HB2.out
        | true =>
          have HAL := Lib.hid (HALL.out rfl)
          go_wp2_with (first | (go_at_call 23; refine HRO.out.mono ?_; rintro e w1 ⟨hb1, v1, rfl, ho1⟩; have HB1 := Lib.hid hb1; have HO1 := Lib.hid ho1; obtain ⟨p0, p1, p2, p3, p4⟩ := hC.out _ hb1; clear hb1 ho1) | (go_at_call 9; refine (HMY.out _).mono ?_; rintro e w2 ⟨rfl, hb2⟩; have HB2 := Lib.hid (HB1.out.trans (hb2.mono HB1.out.size)); have HB12 := Lib.hid hb2; obtain ⟨q0, q1, q2, q3, q4⟩ := hC.out _ HB2.out; clear hb2) | (go_at_call 10; refine (HBY.out _ HB2.out (by first | trivial | rfl)).mono ?_; rintro e wf ⟨Af, cf, mf, w3, v3, rfl, hr3, ha3⟩; have HR3 := Lib.hid hr3; have HA3 := Lib.hid ha3; clear hr3 ha3) | (at_builtin; refine wpList_appends rfl (.tmp 36) (.tmp 41) 22 rfl _ _ _ w3 rfl rfl HR3.out ?_))
          go_roundw
          case rel =>
            have hys : ys = out ++ ex := by rw [HEA.out, HD.out]
            have h1 := HA3.out
            rw [← hys] at h1
            have hs1 := HB1.out.size
            have hs2 := HB12.out.size
            have hsw := HBW.out.size
            refine ⟨j + 1, ys, L', by omega, by go_num, HYS, HLEN.out, Lib.hid h1.1, Lib.hid ?_, by omega, Lib.hid (HBW.out.trans ((HB2.out.mono hsw).trans (h1.below (own_ge HO.out) (by omega)))), Lib.hid ⟨HAL.out, HST.out⟩⟩
            refine own_base (h1.2.1.own ((Mod.of_below (T := fun _ => False) HB12.out).own HO1.out (fun _ _ h => h)) (fun g hg e => ?_)) hsw
            have h4 := own_ge HO1.out g hg
            have h5 := own_lt HO.out g e
            omega
          case measure => simp [intOf]; omega
    · obtain rfl : j = n := by omega
      obtain ⟨A5, c5, rfl, hl5, hm5⟩ := own_form HOP.out
      unfold maxLen at hm5
      have hs := HBW.out.size
      obtain ⟨v2, w2, hr2, ha2⟩ := append1_adds wr w.heap.size u4 out 11 HO.out (by omega) hs
      have HR2 := Lib.hid hr2
      have HA2 := Lib.hid ha2
      have hall : (xs.take j) = xs := by rw [HN.out, List.take_length]
      have hd := HD.out
      have he := HE.out
      rw [hall] at hd he
      have hx : exprB xs = ((L.length : Int) == 0) := by
        unfold exprB
        rw [he.1, he.2]
        cases L with
        | nil => rfl
        | cons a r => simp [opensOf]; omega
      have HFIN : Hid (REPost xs w (.returned (.tuple #[v2, .bool ((L.length : Int) == 0)])) w2) := Lib.hid ⟨HBW.out.trans (ha2.below (own_ge HO.out) hs), v2, by rw [hx], fun _ => by
        have e : exprEnc xs = out ++ [11] := by rw [hd]; rfl
        rw [e]; exact ha2.1⟩
      clear hr2 ha2 hall hd he hx
      go_wp2_with (at_builtin; refine wpList_appends rfl (.tmp 43) (.tmp 44) 22 rfl _ _ _ w2 rfl rfl HR2.out ?_)
      go_ret2
      exact HFIN.out
end Go.Proofs.Ytnechkmdmjhhbaa
