/-
  The document's answer for layer 7: the bytes of an import. (gen/encimp.py)
-/
import Derived.Test.YtgnbkfkiigcdgaaGreatDoorP12
namespace Go.Proofs.YtgnbkfkiigcdgaaGreatDoor
open Go.RowKit Ins Bin
theorem moreOk_lim (x : Imp) (h : x.kind = 1 ∨ x.kind = 2) : moreOk x = (limB x.lim.max && decide (x.type = 0) && decide (x.glob = ⟨0, false⟩)) := by
  unfold moreOk limB
  rw [if_neg (by rcases h with h | h <;> rw [h] <;> decide), if_pos h]
theorem bytes_ofE (w : World) (s : ByteArray) (hs : s.size ≤ maxLen) : ∃ A c w', (convert 9 36 (.string s)).run Tryz.prog w = .ok (.slice A s.size c) w' ∧ s.size ≤ c ∧ c ≤ maxLen ∧ Has w' w'.heap.size A s.data.toList ∧ Below w.heap.size w w' := by
  obtain ⟨A, c, w', h1, h2, h3, h4⟩ := bytes_of w s
  have h5 := h1
  rw [run_bytes_of_string w 9 36 5 s und9 und22 und5] at h5
  injection h5 with h5 h6
  injection h5 with h7 h8 h9
  exact ⟨A, c, w', h1, h2, by rw [← h9]; exact grownCap_le_maxLen w s.size 0 5 hs, h3, h4⟩
theorem own_app (W : World) (base b8 : Nat) (v4 v8 : Value) (l4 l8 : List UInt8) (h4 : W.ownsRow base 5 1 v4 l4.length (bytesOf l4)) (h8 : W.ownsRow b8 5 1 v8 l8.length (bytesOf l8)) (hsz : l4.length + l8.length ≤ 140737488355328) (hb : base ≤ W.heap.size) :
    ∃ A8 c8 n8 v20 w20, v8 = .slice A8 n8 c8 ∧ (Builtin.append_ #[36, 36] 36 #[v4, .slice A8 n8 c8]).run Tryz.prog W = .ok v20 w20 ∧ Adds base W v4 w20 v20 (l4 ++ l8) := by
  obtain ⟨A8, c8, rfl, _, _, _, _, hh⟩ := own_sl h8
  obtain ⟨v20, w20, hr, ha⟩ := appends_adds W base l8.length c8 v4 l4 l8 A8 h4 hh rfl hsz hb
  exact ⟨A8, c8, _, v20, w20, rfl, hr, ha⟩
set_option maxRecDepth 100000 in
set_option maxHeartbeats 4000000 in
theorem bimps_0 (a b : List UInt8) (k : UInt8) (t la : Nat) (lb : Int) (gt : UInt8) (gm : Bool) (w : World) (ha : a.length ≤ 1000000) (hb : b.length ≤ 1000000) (ht : t < 4294967296) (hla : la < 4294967296) (h0 : -9223372036854775808 ≤ lb) (h1 : lb ≤ 9223372036854775807) (hta : U8.text a = false) :
    Calls Tryz.prog 34 #[.agg #[.string ⟨a.toArray⟩, .string ⟨b.toArray⟩, .int .u8 (k.toNat : Int), .int .u32 (t : Int), .int .u32 (la : Int), .int .i64 lb, .int .u8 (gt.toNat : Int), .bool gm]] w (BRes (impOk ⟨a, b, k, t, ⟨la, lb⟩, ⟨gt, gm⟩⟩) (encImp ⟨a, b, k, t, ⟨la, lb⟩, ⟨gt, gm⟩⟩) w) := by
  have HT1 := Lib.hid (fun W => btext_any a W (by omega))
  have HT2 := Lib.hid (fun W => btext_any b W (by omega))
  have hE1 : (encName a).length ≤ 1000010 := by have := Leb.encU_le10 a.length (by omega); simp [encName]; omega
  have hE2 : (encName b).length ≤ 1000010 := by have := Leb.encU_le10 b.length (by omega); simp [encName]; omega
  obtain ⟨B1, hB1⟩ : ∃ B : ByteArray, B = ⟨a.toArray⟩ := ⟨_, rfl⟩
  obtain ⟨B2, hB2⟩ : ∃ B : ByteArray, B = ⟨b.toArray⟩ := ⟨_, rfl⟩
  have hsz1 : B1.size = a.length := by rw [hB1]; simp [ByteArray.size]
  have hsz2 : B2.size = b.length := by rw [hB2]; simp [ByteArray.size]
  have hd1 : B1.data.toList = a := by rw [hB1]
  have hd2 : B2.data.toList = b := by rw [hB2]
  rw [← hB1] at HT1 ⊢
  rw [← hB2] at HT2 ⊢
  have HV1 := Lib.hid (fun W => bytes_ofE W B1 (by unfold maxLen; omega))
  have HV2 := Lib.hid (fun W => bytes_ofE W B2 (by unfold maxLen; omega))
  rw [hd1, hsz1] at HV1
  rw [hd2, hsz2] at HV2
  clear hB1 hB2 hsz1 hsz2 hd1 hd2
  obtain ⟨n1, hn1⟩ : ∃ n, a.length = n := ⟨_, rfl⟩
  obtain ⟨n2, hn2⟩ : ∃ n, b.length = n := ⟨_, rfl⟩
  rw [hn1] at HV1 ha
  rw [hn2] at HV2 hb
  have HN1 := Lib.hid hn1
  have HN2 := Lib.hid hn2
  clear hn1 hn2
  have HX0 : Hid ((w.alloc (.cells #[.string B1, .string B2, .int .u8 (k.toNat : Int), .int .u32 (t : Int), .int .u32 (la : Int), .int .i64 lb, .int .u8 (gt.toNat : Int), .bool gm] 61)).heap[w.heap.size]? = some (.cells #[.string B1, .string B2, .int .u8 (k.toNat : Int), .int .u32 (t : Int), .int .u32 (la : Int), .int .i64 lb, .int .u8 (gt.toNat : Int), .bool gm] 61 (0, 0))) := Lib.hid (heap_alloc_new w _)
  have HB0 : Hid (Below w.heap.size w (w.alloc (.cells #[.string B1, .string B2, .int .u8 (k.toNat : Int), .int .u32 (t : Int), .int .u32 (la : Int), .int .i64 lb, .int .u8 (gt.toNat : Int), .bool gm] 61))) := Lib.hid ((Below.refl _ _).alloc (Nat.le_refl _) _)
  have HS0 : Hid ((w.alloc (.cells #[.string B1, .string B2, .int .u8 (k.toNat : Int), .int .u32 (t : Int), .int .u32 (la : Int), .int .i64 lb, .int .u8 (gt.toNat : Int), .bool gm] 61)).heap.size = w.heap.size + 1) := Lib.hid (by simp)
  go_enter Tryz.func34, Tryz.ntmps34
  go_upto_region 1 with fail
  generalize (w.alloc (.cells #[.string B1, .string B2, .int .u8 (k.toNat : Int), .int .u32 (t : Int), .int .u32 (la : Int), .int .i64 lb, .int .u8 (gt.toNat : Int), .bool gm] 61)) = w0 at HX0 HB0 HS0 ⊢
  have HXB : Hid (∀ W, Below w0.heap.size w0 W → W.heap[w.heap.size]? = some (.cells #[.string B1, .string B2, .int .u8 (k.toNat : Int), .int .u32 (t : Int), .int .u32 (la : Int), .int .i64 lb, .int .u8 (gt.toNat : Int), .bool gm] 61 (0, 0))) := Lib.hid (fun W hb => (hb.block w.heap.size (by have := HS0.out; omega)).trans HX0.out)
  have HC0 : Hid (∀ W, Below w0.heap.size w0 W → W.cell? ⟨w.heap.size, 0, none⟩ = some (.string B1) ∧ W.cell? ⟨w.heap.size, 1, none⟩ = some (.string B2)) := Lib.hid (fun W hb => ⟨by rw [cell_of_row W _ 0 _ _ (0, 0) (HXB.out W hb)]; rfl, by rw [cell_of_row W _ 1 _ _ (0, 0) (HXB.out W hb)]; rfl⟩)
  refine wp_region_held_drew (S := (fun W => W.cell? ⟨w.heap.size, 0, none⟩ = some (.string B1) ∧ W.cell? ⟨w.heap.size, 1, none⟩ = some (.string B2))) (by kernel_rfl) (HC0.out _ (Below.drew (Below.refl _ _))) (fun hHeld => ?_)
  refine dt 0 rfl (v := ?_) ?_ ?_
  rotate_left
  · (intro wy hSw; (try dsimp only at hSw); go_simp; try with_reducible rfl)
  simp only [Act.put, List.setIfInBounds_toArray, List.set_cons_zero, List.set_cons_succ]
  refine dt 1 rfl (v := ?_) ?_ ?_
  rotate_left
  · (intro wy hSw; (try dsimp only at hSw); obtain ⟨s0, s1⟩ := hSw; go_simp; try with_reducible rfl)
  simp only [Act.put, List.setIfInBounds_toArray, List.set_cons_zero, List.set_cons_succ]
  refine dt 3 rfl (v := ?_) ?_ ?_
  rotate_left
  · (intro wy hSw; (try dsimp only at hSw); go_simp; try with_reducible rfl)
  simp only [Act.put, List.setIfInBounds_toArray, List.set_cons_zero, List.set_cons_succ]
  refine dt 4 rfl (v := ?_) ?_ ?_
  rotate_left
  · (intro wy hSw; (try dsimp only at hSw); obtain ⟨s0, s1⟩ := hSw; go_simp; try with_reducible rfl)
  simp only [Act.put, List.setIfInBounds_toArray, List.set_cons_zero, List.set_cons_succ]
  refine drawn_sole 2 rfl (by kernel_rfl) (fun K hK => ?_)
  go_simp
  refine (HT1.out _).mono ?_
  rintro e wa ⟨va, rfl, hoa, hba⟩
  have HOA := Lib.hid hoa
  have HBA := Lib.hid (show Below w0.heap.size w0 wa from (Below.drew (Below.refl _ _)).trans hba)
  clear hoa hba
  go_wp2_with fail
  refine hK.out _ _ (HC0.out _ HBA.out) (fun hHeld2 => ?_)
  clear hK K hHeld
  have hHeld := hHeld2
  clear hHeld2
  try simp only [Act.put, List.setIfInBounds_toArray, List.set_cons_zero, List.set_cons_succ]
  refine drawn_sole 5 rfl (by kernel_rfl) (fun K hK => ?_)
  go_simp
  refine (HT2.out _).mono ?_
  rintro e wb ⟨vb, rfl, hob, hbb⟩
  have HBB := Lib.hid (HBA.out.trans (hbb.mono HBA.out.size))
  obtain ⟨Ab, cb, rfl, hnb, _, _, _, hhb⟩ := own_sl hob
  obtain ⟨v3, w3, hr3, ha3⟩ := appends_adds wb w0.heap.size (encName b).length cb va (encName a) (encName b) Ab ((Mod.of_below (T := fun _ => False) hbb).own HOA.out (fun _ _ h => h)) hhb rfl (by omega) HBB.out.size
  have HR3 := Lib.hid hr3
  have HB3 := Lib.hid (HBB.out.trans (ha3.below (own_ge HOA.out) HBB.out.size))
  have HO3 := Lib.hid ha3.1
  clear hr3 ha3 hob hbb hhb hnb
  go_wp2_with fail
  refine hK.out _ _ (HC0.out _ HBB.out) (fun hHeld2 => ?_)
  clear hK K hHeld
  have hHeld := hHeld2
  clear hHeld2
  try simp only [Act.put, List.setIfInBounds_toArray, List.set_cons_zero, List.set_cons_succ]
  refine drawn_sole 6 rfl (by kernel_rfl) (fun K hK => ?_)
  rw [if_pos]
  case hc => rfl
  refine wp_appendE (.tmp 12) (.tmp 15) 36 rfl _ _ _ w3 rfl rfl HR3.out ?_
  refine hK.out _ _ (HC0.out _ HB3.out) (fun hHeld2 => ?_)
  clear hK K hHeld
  have hHeld := hHeld2
  clear hHeld2
  try simp only [Act.put, List.setIfInBounds_toArray, List.set_cons_zero, List.set_cons_succ]
  refine dt 7 rfl (v := ?_) ?_ ?_
  rotate_left
  · (intro wy hSw; (try dsimp only at hSw); go_simp; try with_reducible rfl)
  simp only [Act.put, List.setIfInBounds_toArray, List.set_cons_zero, List.set_cons_succ]
  refine wpAnyH_done (by kernel_rfl) ?_ _
  have hl3 : (encName a ++ encName b).length ≤ 2000020 := by rw [List.length_append]; omega
  obtain ⟨v4, w4, hr4, ha4⟩ := append1_adds w3 w0.heap.size v3 (encName a ++ encName b) k HO3.out (by omega) HB3.out.size
  have hb4 := HB3.out.trans (ha4.below (own_ge HO3.out) HB3.out.size)
  have HR4 := Lib.hid hr4
  have HO4 := Lib.hid ha4.1
  have HB4 := Lib.hid hb4
  have z2 : w3.cell? ⟨w.heap.size, 2, none⟩ = some (.int .u8 (k.toNat : Int)) := by rw [cell_of_row w3 _ 2 _ _ (0, 0) (HXB.out w3 HB3.out)]; rfl
  obtain ⟨y0, y1⟩ := HC0.out w4 hb4
  obtain ⟨A5, c5, w5, hr5, hnc5, hcm5, hh5, hb5⟩ := HV1.out w4
  have HB5 := Lib.hid (hb4.trans (hb5.mono hb4.size))
  obtain ⟨x0, x1⟩ := HC0.out w5 HB5.out
  have HVA := Lib.hid (rvalid_any A5 a n1 c5 w5 HN1.out.symm ha hnc5 (by unfold maxLen at hcm5; omega) hh5)
  have HBX5 := Lib.hid hb5
  clear hr4 ha4 hb4 hh5 hb5 hnc5 hcm5
  rw [hta] at HVA
  have HTA := Lib.hid hta
  clear hta
  have HL4 : Hid ((encName a ++ encName b ++ [k]).length ≤ 2000021) := Lib.hid (by rw [List.length_append]; simp; rw [List.length_append] at hl3; omega)
  have HO4X5 : Hid (w5.ownsRow w0.heap.size 5 1 v4 (encName a ++ encName b ++ [k]).length (bytesOf (encName a ++ encName b ++ [k]))) := Lib.hid ((Mod.of_below (T := fun _ => False) HBX5.out).own HO4.out (fun _ _ h => h))
  go_upto_region 7 with (first | (at_builtin; refine wpList_appends rfl (.tmp 17) (.tmp 20) 36 rfl _ _ _ w4 rfl rfl HR4.out ?_) | (go_at_call 39; refine HVA.out.mono ?_; rintro e wq ⟨rfl, rfl⟩; clear HVA))
  have HBZ : Hid (Below w0.heap.size w0 ((w5.alloc (.cells #[.int .u32 0, .int .i64 0] 57)).alloc (.cells #[.int .u8 0, .bool false] 59))) := Lib.hid ((HB5.out.alloc HB5.out.size _).alloc (Nat.le_trans HB5.out.size (by simp)) _)
  have HOZ : Hid (((w5.alloc (.cells #[.int .u32 0, .int .i64 0] 57)).alloc (.cells #[.int .u8 0, .bool false] 59)).ownsRow w0.heap.size 5 1 v4 (encName a ++ encName b ++ [k]).length (bytesOf (encName a ++ encName b ++ [k]))) := Lib.hid (((HO4X5.out).alloc _).alloc _)
  have HLZ : Hid (((w5.alloc (.cells #[.int .u32 0, .int .i64 0] 57)).alloc (.cells #[.int .u8 0, .bool false] 59)).heap[w5.heap.size]? = some (.cells #[.int .u32 0, .int .i64 0] 57 (0, 0))) := Lib.hid ((Below.heap_alloc _ _ _ (by simp)).trans (heap_alloc_new w5 _))
  have HGZ : Hid (((w5.alloc (.cells #[.int .u32 0, .int .i64 0] 57)).alloc (.cells #[.int .u8 0, .bool false] 59)).heap[w5.heap.size + 1]? = some (.cells #[.int .u8 0, .bool false] 59 (0, 0))) := Lib.hid (by have := heap_alloc_new (w5.alloc (.cells #[.int .u32 0, .int .i64 0] 57)) (.cells #[.int .u8 0, .bool false] 59); simpa using this)
  have HSZ : Hid (w0.heap.size ≤ w5.heap.size) := Lib.hid HB5.out.size
  generalize ((w5.alloc (.cells #[.int .u32 0, .int .i64 0] 57)).alloc (.cells #[.int .u8 0, .bool false] 59)) = wz at HBZ HOZ HLZ HGZ ⊢
  obtain ⟨LB, hLB⟩ : ∃ LB, w5.heap.size = LB := ⟨_, rfl⟩
  rw [hLB] at HLZ HGZ HSZ ⊢
  clear hLB
  have HALL : Hid (∀ W, Mod (fun g => g ≥ w0.heap.size ∧ g ≠ LB ∧ g ≠ LB + 1) wz W → W.cell? ⟨w.heap.size, 2, none⟩ = some (.int .u8 (k.toNat : Int)) ∧ W.cell? ⟨w.heap.size, 3, none⟩ = some (.int .u32 (t : Int)) ∧ W.cell? ⟨w.heap.size, 4, none⟩ = some (.int .u32 (la : Int)) ∧ W.cell? ⟨w.heap.size, 5, none⟩ = some (.int .i64 lb) ∧ W.cell? ⟨w.heap.size, 6, none⟩ = some (.int .u8 (gt.toNat : Int)) ∧ W.cell? ⟨w.heap.size, 7, none⟩ = some (.bool gm) ∧
      W.cell? ⟨LB, 0, none⟩ = some (.int .u32 0) ∧ W.cell? ⟨LB, 1, none⟩ = some (.int .i64 0) ∧ W.cell? ⟨LB + 1, 0, none⟩ = some (.int .u8 0) ∧ W.cell? ⟨LB + 1, 1, none⟩ = some (.bool false)) := Lib.hid (fun W hm => by
    have hx := hm.heap (HXB.out wz HBZ.out) (fun e => by have := HS0.out; omega)
    have hl := hm.heap HLZ.out (fun e => e.2.1 rfl)
    have hg := hm.heap HGZ.out (fun e => e.2.2 rfl)
    refine ⟨?_, ?_, ?_, ?_, ?_, ?_, ?_, ?_, ?_, ?_⟩
    iterate 6 (rw [cell_of_row W _ _ _ _ (0, 0) hx]; rfl)
    iterate 2 (rw [cell_of_row W _ _ _ _ (0, 0) hl]; rfl)
    iterate 2 (rw [cell_of_row W _ _ _ _ (0, 0) hg]; rfl))
  obtain ⟨p2, p3, p4, p5, p6, p7, q0, q1, q2, q3⟩ := HALL.out wz (Mod.refl _ _)
  have HFIN : Hid (∀ W W' v l8, Below wz.heap.size wz W → Adds w0.heap.size W v4 W' v (encName a ++ encName b ++ [k] ++ l8) → l8.length ≤ 2000 → ∀ okv, impOk ⟨a, b, k, t, ⟨la, lb⟩, ⟨gt, gm⟩⟩ = okv → (okv = true → l8 = encMore ⟨a, b, k, t, ⟨la, lb⟩, ⟨gt, gm⟩⟩) → BRes (impOk ⟨a, b, k, t, ⟨la, lb⟩, ⟨gt, gm⟩⟩) (encImp ⟨a, b, k, t, ⟨la, lb⟩, ⟨gt, gm⟩⟩) w (.returned (.tuple #[v, .bool okv])) W') := Lib.hid (fun W W' v l8 hb ha hl okv hok hl8 => by
    have hbz := HBZ.out.trans ((hb.mono HBZ.out.size).trans (ha.below (own_ge HOZ.out) (Nat.le_trans HBZ.out.size hb.size)))
    rw [hok]
    refine bres_of (HB0.out.trans (hbz.mono HB0.out.size)) (own_base ha.1 HB0.out.size) (by have := HL4.out; rw [List.length_append (bs := l8)]; omega) (fun e => ?_)
    rw [hl8 e]
    simp [encImp])
  have HM4 := Lib.hid (fun W (hb : Below wz.heap.size wz W) => (Mod.of_below (T := fun _ => False) hb).own HOZ.out (fun _ _ h => h))
  go_upto_region 8 with fail
  by_cases hk0 : k = 0
  · subst hk0
    have hwt : IntKind.u64.wrap (t : Int) = (t : Int) := IntWalk.u64_in _ (by omega)
    have HU := Lib.hid (bU_any t wz (by omega))
    have hel := Leb.encU_le10 t (by omega)
    have HEM : Hid (Leb.encU t = encMore ⟨a, b, 0, t, ⟨la, lb⟩, ⟨gt, gm⟩⟩) := Lib.hid rfl
    go_wp2_with (first | (go_at_call 18; refine HU.out.mono ?_; rintro e w8 ⟨v8, rfl, ho8, hb8⟩; obtain ⟨A8, c8, n8, v20, w20, rfl, hr20, ha20⟩ := own_app w8 w0.heap.size wz.heap.size v4 _ _ _ (HM4.out w8 hb8) ho8 (by have := HL4.out; omega) (Nat.le_trans HBZ.out.size hb8.size); have HR20 := Lib.hid hr20; have HA20 := Lib.hid ha20; have HB8 := Lib.hid hb8; obtain ⟨r2, r3, r4, r5, r6, r7, s0, s1, s2, s3⟩ := HALL.out w8 (Mod.of_below hb8); clear ho8 hb8 hr20 ha20) | (at_builtin; refine wpList_appends rfl (.tmp 99) (.tmp 100) 36 rfl _ _ _ w20 rfl rfl HR20.out ?_))
    all_goals
      go_ret2
      refine HFIN.out _ _ _ _ HB8.out HA20.out (by omega) _ ?_ (fun _ => HEM.out)
      · simp [impOk, HTA.out]
  · by_cases hk1 : k = 1
    · subst hk1
      have HU := Lib.hid (blims_any la lb wz hla h0 h1)
      have HLB := Lib.hid (moreOk_lim ⟨a, b, 1, t, ⟨la, lb⟩, ⟨gt, gm⟩⟩ (by simp))
      obtain ⟨ok1, hok1⟩ : ∃ ok1, limB lb = ok1 := ⟨_, rfl⟩
      dsimp only at HLB
      rw [hok1] at HU HLB
      clear hok1
      have HMO : Hid ([UInt8.ofNat 112] ++ encLim ⟨la, lb⟩ = encMore ⟨a, b, 1, t, ⟨la, lb⟩, ⟨gt, gm⟩⟩) := Lib.hid rfl
      cases ok1
      all_goals
        go_wp2_with (first | (go_at_call 35; refine HU.out.mono ?_; rintro e w8 ⟨hb8, v8, l8, rfl, ho8, hl8, hx8⟩; have HX8 := Lib.hid hx8; have HL8 := Lib.hid hl8; obtain ⟨A7, c7, n7, v9, w9, rfl, hr9, ha9⟩ := own_app (w8.alloc (.cells #[.int .u8 112] 5)) w8.heap.size wz.heap.size _ _ [UInt8.ofNat 112] _ (own_lit1 w8 w8.heap.size 112 (by omega) (Nat.le_refl _)) (ho8.alloc _) (by simp; omega) (by simp); have hb9 : Below wz.heap.size wz w9 := hb8.trans ((((Below.refl _ _).alloc (Nat.le_refl _) _).trans ((ha9.below (fun g e => by simp [Value.ownBlock] at e; omega) (by simp)))).mono hb8.size); have HR9 := Lib.hid hr9; obtain ⟨A8, c8, n8, v20, w20, rfl, hr20, ha20⟩ := own_app w9 w0.heap.size w8.heap.size v4 _ _ _ (HM4.out w9 hb9) ha9.1 (by have := HL4.out; simp; simp at this; omega) (Nat.le_trans HBZ.out.size hb9.size); have HB8 := Lib.hid hb9; obtain ⟨t2, _, _, _, _, _, _, _, _, _⟩ := HALL.out w9 (Mod.of_below hb9); have HR20 := Lib.hid hr20; have HA20 := Lib.hid ha20; obtain ⟨r2, r3, r4, r5, r6, r7, s0, s1, s2, s3⟩ := HALL.out w8 (Mod.of_below hb8); clear ho8 hb8 hr20 ha20 hx8 hl8 hr9 ha9 hb9) | (at_builtin; refine wpList_appends rfl (.tmp 99) (.tmp 100) 36 rfl _ _ _ w20 rfl rfl HR20.out ?_) | (at_builtin; refine wpList_appends rfl (.tmp 76) (.tmp 77) 36 rfl _ _ _ w9 rfl rfl HR9.out ?_))
        all_goals
          go_ret2
          refine HFIN.out _ _ _ _ HB8.out HA20.out (by have := HL8.out; simp; omega) _ ?_ ?_
          · simp [impOk, HTA.out]
          · intro e; first | (cases e; done) | (rw [HX8.out (by first | exact trivial | rfl)]; exact HMO.out)
    · by_cases hk2 : k = 2
      · subst hk2
        have HU := Lib.hid (blims_any la lb wz hla h0 h1)
        have HLB := Lib.hid (moreOk_lim ⟨a, b, 2, t, ⟨la, lb⟩, ⟨gt, gm⟩⟩ (by simp))
        obtain ⟨ok1, hok1⟩ : ∃ ok1, limB lb = ok1 := ⟨_, rfl⟩
        dsimp only at HLB
        rw [hok1] at HU HLB
        clear hok1
        have HMO : Hid (encLim ⟨la, lb⟩ = encMore ⟨a, b, 2, t, ⟨la, lb⟩, ⟨gt, gm⟩⟩) := Lib.hid rfl
        cases ok1
        all_goals
          go_wp2_with (first | (go_at_call 35; refine HU.out.mono ?_; rintro e w8 ⟨hb8, v8, l8, rfl, ho8, hl8, hx8⟩; have HX8 := Lib.hid hx8; have HL8 := Lib.hid hl8; obtain ⟨A8, c8, n8, v20, w20, rfl, hr20, ha20⟩ := own_app w8 w0.heap.size wz.heap.size v4 _ _ _ (HM4.out w8 hb8) ho8 (by have := HL4.out; omega) (Nat.le_trans HBZ.out.size hb8.size); have HR20 := Lib.hid hr20; have HA20 := Lib.hid ha20; have HB8 := Lib.hid hb8; obtain ⟨r2, r3, r4, r5, r6, r7, s0, s1, s2, s3⟩ := HALL.out w8 (Mod.of_below hb8); clear ho8 hb8 hr20 ha20 hx8 hl8) | (at_builtin; refine wpList_appends rfl (.tmp 99) (.tmp 100) 36 rfl _ _ _ w20 rfl rfl HR20.out ?_))
          all_goals
            go_ret2
            refine HFIN.out _ _ _ _ HB8.out HA20.out (by have := HL8.out; omega) _ ?_ ?_
            · simp [impOk, HTA.out]
            · intro e; first | (cases e; done) | (rw [HX8.out (by first | exact trivial | rfl)]; exact HMO.out)
      · by_cases hk3 : k = 3
        · subst hk3
          have HU := Lib.hid (bglobs_any gt gm wz)
          obtain ⟨ok1, hok1⟩ : ∃ ok1, whole1 gt = ok1 := ⟨_, rfl⟩
          rw [hok1] at HU
          have HLB := Lib.hid hok1
          clear hok1
          have HMO : Hid (encGlob ⟨gt, gm⟩ = encMore ⟨a, b, 3, t, ⟨la, lb⟩, ⟨gt, gm⟩⟩) := Lib.hid rfl
          cases ok1
          all_goals
            go_wp2_with (first | (go_at_call 36; refine HU.out.mono ?_; rintro e w8 ⟨hb8, v8, l8, rfl, ho8, hl8, hx8⟩; have HX8 := Lib.hid hx8; have HL8 := Lib.hid hl8; obtain ⟨A8, c8, n8, v20, w20, rfl, hr20, ha20⟩ := own_app w8 w0.heap.size wz.heap.size v4 _ _ _ (HM4.out w8 hb8) ho8 (by have := HL4.out; omega) (Nat.le_trans HBZ.out.size hb8.size); have HR20 := Lib.hid hr20; have HA20 := Lib.hid ha20; have HB8 := Lib.hid hb8; obtain ⟨r2, r3, r4, r5, r6, r7, s0, s1, s2, s3⟩ := HALL.out w8 (Mod.of_below hb8); clear ho8 hb8 hr20 ha20 hx8 hl8) | (at_builtin; refine wpList_appends rfl (.tmp 99) (.tmp 100) 36 rfl _ _ _ w20 rfl rfl HR20.out ?_))
            all_goals
              go_ret2
              refine HFIN.out _ _ _ _ HB8.out HA20.out (by have := HL8.out; omega) _ ?_ ?_
              · simp [impOk, HTA.out]
              · intro e; first | (cases e; done) | (rw [HX8.out (by first | exact trivial | rfl)]; exact HMO.out)
        · obtain ⟨A8, c8, n8, v20, w20, h80, hr20, ha20⟩ := own_app wz w0.heap.size w0.heap.size v4 (.slice none 0 0) _ [] HOZ.out (World.ownsRow_nil _ _ _ _) (by have := HL4.out; simp; simp at this; omega) HBZ.out.size
          injection h80 with h81 h82 h83
          rw [← h81, ← h82, ← h83] at hr20
          clear h81 h82 h83
          have HR20 := Lib.hid hr20
          have HA20 := Lib.hid ha20
          clear hr20 ha20
          have n0 : ¬ k.toNat = 0 := fun e => hk0 (UInt8.toNat_inj.mp e)
          have n1' : ¬ k.toNat = 1 := fun e => hk1 (UInt8.toNat_inj.mp e)
          have n2' : ¬ k.toNat = 2 := fun e => hk2 (UInt8.toNat_inj.mp e)
          have n3' : ¬ k.toNat = 3 := fun e => hk3 (UInt8.toNat_inj.mp e)
          go_wp2_with (first | (at_builtin; refine wpList_appends rfl (.tmp 99) (.tmp 100) 36 rfl _ _ _ w20 rfl rfl HR20.out ?_))
          all_goals
            go_ret2
            refine HFIN.out _ _ _ _ (Below.refl _ _) HA20.out (by simp) _ ?_ (fun e => by cases e)
            simp [impOk, moreOk, hk0, hk1, hk2, hk3]
set_option maxRecDepth 100000 in
set_option maxHeartbeats 4000000 in
theorem bimps_1 (a b : List UInt8) (k : UInt8) (t la : Nat) (lb : Int) (gt : UInt8) (gm : Bool) (w : World) (ha : a.length ≤ 1000000) (hb : b.length ≤ 1000000) (ht : t < 4294967296) (hla : la < 4294967296) (h0 : -9223372036854775808 ≤ lb) (h1 : lb ≤ 9223372036854775807) (hta : U8.text a = true) (htb : U8.text b = false) :
    Calls Tryz.prog 34 #[.agg #[.string ⟨a.toArray⟩, .string ⟨b.toArray⟩, .int .u8 (k.toNat : Int), .int .u32 (t : Int), .int .u32 (la : Int), .int .i64 lb, .int .u8 (gt.toNat : Int), .bool gm]] w (BRes (impOk ⟨a, b, k, t, ⟨la, lb⟩, ⟨gt, gm⟩⟩) (encImp ⟨a, b, k, t, ⟨la, lb⟩, ⟨gt, gm⟩⟩) w) := by
  have HT1 := Lib.hid (fun W => btext_any a W (by omega))
  have HT2 := Lib.hid (fun W => btext_any b W (by omega))
  have hE1 : (encName a).length ≤ 1000010 := by have := Leb.encU_le10 a.length (by omega); simp [encName]; omega
  have hE2 : (encName b).length ≤ 1000010 := by have := Leb.encU_le10 b.length (by omega); simp [encName]; omega
  obtain ⟨B1, hB1⟩ : ∃ B : ByteArray, B = ⟨a.toArray⟩ := ⟨_, rfl⟩
  obtain ⟨B2, hB2⟩ : ∃ B : ByteArray, B = ⟨b.toArray⟩ := ⟨_, rfl⟩
  have hsz1 : B1.size = a.length := by rw [hB1]; simp [ByteArray.size]
  have hsz2 : B2.size = b.length := by rw [hB2]; simp [ByteArray.size]
  have hd1 : B1.data.toList = a := by rw [hB1]
  have hd2 : B2.data.toList = b := by rw [hB2]
  rw [← hB1] at HT1 ⊢
  rw [← hB2] at HT2 ⊢
  have HV1 := Lib.hid (fun W => bytes_ofE W B1 (by unfold maxLen; omega))
  have HV2 := Lib.hid (fun W => bytes_ofE W B2 (by unfold maxLen; omega))
  rw [hd1, hsz1] at HV1
  rw [hd2, hsz2] at HV2
  clear hB1 hB2 hsz1 hsz2 hd1 hd2
  obtain ⟨n1, hn1⟩ : ∃ n, a.length = n := ⟨_, rfl⟩
  obtain ⟨n2, hn2⟩ : ∃ n, b.length = n := ⟨_, rfl⟩
  rw [hn1] at HV1 ha
  rw [hn2] at HV2 hb
  have HN1 := Lib.hid hn1
  have HN2 := Lib.hid hn2
  clear hn1 hn2
  have HX0 : Hid ((w.alloc (.cells #[.string B1, .string B2, .int .u8 (k.toNat : Int), .int .u32 (t : Int), .int .u32 (la : Int), .int .i64 lb, .int .u8 (gt.toNat : Int), .bool gm] 61)).heap[w.heap.size]? = some (.cells #[.string B1, .string B2, .int .u8 (k.toNat : Int), .int .u32 (t : Int), .int .u32 (la : Int), .int .i64 lb, .int .u8 (gt.toNat : Int), .bool gm] 61 (0, 0))) := Lib.hid (heap_alloc_new w _)
  have HB0 : Hid (Below w.heap.size w (w.alloc (.cells #[.string B1, .string B2, .int .u8 (k.toNat : Int), .int .u32 (t : Int), .int .u32 (la : Int), .int .i64 lb, .int .u8 (gt.toNat : Int), .bool gm] 61))) := Lib.hid ((Below.refl _ _).alloc (Nat.le_refl _) _)
  have HS0 : Hid ((w.alloc (.cells #[.string B1, .string B2, .int .u8 (k.toNat : Int), .int .u32 (t : Int), .int .u32 (la : Int), .int .i64 lb, .int .u8 (gt.toNat : Int), .bool gm] 61)).heap.size = w.heap.size + 1) := Lib.hid (by simp)
  go_enter Tryz.func34, Tryz.ntmps34
  go_upto_region 1 with fail
  generalize (w.alloc (.cells #[.string B1, .string B2, .int .u8 (k.toNat : Int), .int .u32 (t : Int), .int .u32 (la : Int), .int .i64 lb, .int .u8 (gt.toNat : Int), .bool gm] 61)) = w0 at HX0 HB0 HS0 ⊢
  have HXB : Hid (∀ W, Below w0.heap.size w0 W → W.heap[w.heap.size]? = some (.cells #[.string B1, .string B2, .int .u8 (k.toNat : Int), .int .u32 (t : Int), .int .u32 (la : Int), .int .i64 lb, .int .u8 (gt.toNat : Int), .bool gm] 61 (0, 0))) := Lib.hid (fun W hb => (hb.block w.heap.size (by have := HS0.out; omega)).trans HX0.out)
  have HC0 : Hid (∀ W, Below w0.heap.size w0 W → W.cell? ⟨w.heap.size, 0, none⟩ = some (.string B1) ∧ W.cell? ⟨w.heap.size, 1, none⟩ = some (.string B2)) := Lib.hid (fun W hb => ⟨by rw [cell_of_row W _ 0 _ _ (0, 0) (HXB.out W hb)]; rfl, by rw [cell_of_row W _ 1 _ _ (0, 0) (HXB.out W hb)]; rfl⟩)
  refine wp_region_held_drew (S := (fun W => W.cell? ⟨w.heap.size, 0, none⟩ = some (.string B1) ∧ W.cell? ⟨w.heap.size, 1, none⟩ = some (.string B2))) (by kernel_rfl) (HC0.out _ (Below.drew (Below.refl _ _))) (fun hHeld => ?_)
  refine dt 0 rfl (v := ?_) ?_ ?_
  rotate_left
  · (intro wy hSw; (try dsimp only at hSw); go_simp; try with_reducible rfl)
  simp only [Act.put, List.setIfInBounds_toArray, List.set_cons_zero, List.set_cons_succ]
  refine dt 1 rfl (v := ?_) ?_ ?_
  rotate_left
  · (intro wy hSw; (try dsimp only at hSw); obtain ⟨s0, s1⟩ := hSw; go_simp; try with_reducible rfl)
  simp only [Act.put, List.setIfInBounds_toArray, List.set_cons_zero, List.set_cons_succ]
  refine dt 3 rfl (v := ?_) ?_ ?_
  rotate_left
  · (intro wy hSw; (try dsimp only at hSw); go_simp; try with_reducible rfl)
  simp only [Act.put, List.setIfInBounds_toArray, List.set_cons_zero, List.set_cons_succ]
  refine dt 4 rfl (v := ?_) ?_ ?_
  rotate_left
  · (intro wy hSw; (try dsimp only at hSw); obtain ⟨s0, s1⟩ := hSw; go_simp; try with_reducible rfl)
  simp only [Act.put, List.setIfInBounds_toArray, List.set_cons_zero, List.set_cons_succ]
  refine drawn_sole 2 rfl (by kernel_rfl) (fun K hK => ?_)
  go_simp
  refine (HT1.out _).mono ?_
  rintro e wa ⟨va, rfl, hoa, hba⟩
  have HOA := Lib.hid hoa
  have HBA := Lib.hid (show Below w0.heap.size w0 wa from (Below.drew (Below.refl _ _)).trans hba)
  clear hoa hba
  go_wp2_with fail
  refine hK.out _ _ (HC0.out _ HBA.out) (fun hHeld2 => ?_)
  clear hK K hHeld
  have hHeld := hHeld2
  clear hHeld2
  try simp only [Act.put, List.setIfInBounds_toArray, List.set_cons_zero, List.set_cons_succ]
  refine drawn_sole 5 rfl (by kernel_rfl) (fun K hK => ?_)
  go_simp
  refine (HT2.out _).mono ?_
  rintro e wb ⟨vb, rfl, hob, hbb⟩
  have HBB := Lib.hid (HBA.out.trans (hbb.mono HBA.out.size))
  obtain ⟨Ab, cb, rfl, hnb, _, _, _, hhb⟩ := own_sl hob
  obtain ⟨v3, w3, hr3, ha3⟩ := appends_adds wb w0.heap.size (encName b).length cb va (encName a) (encName b) Ab ((Mod.of_below (T := fun _ => False) hbb).own HOA.out (fun _ _ h => h)) hhb rfl (by omega) HBB.out.size
  have HR3 := Lib.hid hr3
  have HB3 := Lib.hid (HBB.out.trans (ha3.below (own_ge HOA.out) HBB.out.size))
  have HO3 := Lib.hid ha3.1
  clear hr3 ha3 hob hbb hhb hnb
  go_wp2_with fail
  refine hK.out _ _ (HC0.out _ HBB.out) (fun hHeld2 => ?_)
  clear hK K hHeld
  have hHeld := hHeld2
  clear hHeld2
  try simp only [Act.put, List.setIfInBounds_toArray, List.set_cons_zero, List.set_cons_succ]
  refine drawn_sole 6 rfl (by kernel_rfl) (fun K hK => ?_)
  rw [if_pos]
  case hc => rfl
  refine wp_appendE (.tmp 12) (.tmp 15) 36 rfl _ _ _ w3 rfl rfl HR3.out ?_
  refine hK.out _ _ (HC0.out _ HB3.out) (fun hHeld2 => ?_)
  clear hK K hHeld
  have hHeld := hHeld2
  clear hHeld2
  try simp only [Act.put, List.setIfInBounds_toArray, List.set_cons_zero, List.set_cons_succ]
  refine dt 7 rfl (v := ?_) ?_ ?_
  rotate_left
  · (intro wy hSw; (try dsimp only at hSw); go_simp; try with_reducible rfl)
  simp only [Act.put, List.setIfInBounds_toArray, List.set_cons_zero, List.set_cons_succ]
  refine wpAnyH_done (by kernel_rfl) ?_ _
  have hl3 : (encName a ++ encName b).length ≤ 2000020 := by rw [List.length_append]; omega
  obtain ⟨v4, w4, hr4, ha4⟩ := append1_adds w3 w0.heap.size v3 (encName a ++ encName b) k HO3.out (by omega) HB3.out.size
  have hb4 := HB3.out.trans (ha4.below (own_ge HO3.out) HB3.out.size)
  have HR4 := Lib.hid hr4
  have HO4 := Lib.hid ha4.1
  have HB4 := Lib.hid hb4
  have z2 : w3.cell? ⟨w.heap.size, 2, none⟩ = some (.int .u8 (k.toNat : Int)) := by rw [cell_of_row w3 _ 2 _ _ (0, 0) (HXB.out w3 HB3.out)]; rfl
  obtain ⟨y0, y1⟩ := HC0.out w4 hb4
  obtain ⟨A5, c5, w5, hr5, hnc5, hcm5, hh5, hb5⟩ := HV1.out w4
  have HB5 := Lib.hid (hb4.trans (hb5.mono hb4.size))
  obtain ⟨x0, x1⟩ := HC0.out w5 HB5.out
  have HVA := Lib.hid (rvalid_any A5 a n1 c5 w5 HN1.out.symm ha hnc5 (by unfold maxLen at hcm5; omega) hh5)
  have HBX5 := Lib.hid hb5
  clear hr4 ha4 hb4 hh5 hb5 hnc5 hcm5
  rw [hta] at HVA
  have HTA := Lib.hid hta
  clear hta
  have HL4 : Hid ((encName a ++ encName b ++ [k]).length ≤ 2000021) := Lib.hid (by rw [List.length_append]; simp; rw [List.length_append] at hl3; omega)
  have HO4X5 : Hid (w5.ownsRow w0.heap.size 5 1 v4 (encName a ++ encName b ++ [k]).length (bytesOf (encName a ++ encName b ++ [k]))) := Lib.hid ((Mod.of_below (T := fun _ => False) HBX5.out).own HO4.out (fun _ _ h => h))
  obtain ⟨A6, c6, w6, hr6, hnc6, hcm6, hh6, hb6⟩ := HV2.out w5
  have HB6 := Lib.hid (HB5.out.trans (hb6.mono HB5.out.size))
  have HVB := Lib.hid (rvalid_any A6 b n2 c6 w6 HN2.out.symm hb hnc6 (by unfold maxLen at hcm6; omega) hh6)
  obtain ⟨x0', x1'⟩ := HC0.out w6 HB6.out
  have HO4X6 : Hid (w6.ownsRow w0.heap.size 5 1 v4 (encName a ++ encName b ++ [k]).length (bytesOf (encName a ++ encName b ++ [k]))) := Lib.hid ((Mod.of_below (T := fun _ => False) (HBX5.out.trans (hb6.mono HBX5.out.size))).own HO4.out (fun _ _ h => h))
  clear hh6 hb6 hnc6 hcm6
  rw [htb] at HVB
  have HTB := Lib.hid htb
  clear htb
  go_upto_region 7 with (first | (at_builtin; refine wpList_appends rfl (.tmp 17) (.tmp 20) 36 rfl _ _ _ w4 rfl rfl HR4.out ?_) | (go_at_call 39; refine HVA.out.mono ?_; rintro e wq ⟨rfl, rfl⟩; clear HVA) | (go_at_call 39; refine HVB.out.mono ?_; rintro e wq ⟨rfl, rfl⟩; clear HVB))
  have HBZ : Hid (Below w0.heap.size w0 ((w6.alloc (.cells #[.int .u32 0, .int .i64 0] 57)).alloc (.cells #[.int .u8 0, .bool false] 59))) := Lib.hid ((HB6.out.alloc HB6.out.size _).alloc (Nat.le_trans HB6.out.size (by simp)) _)
  have HOZ : Hid (((w6.alloc (.cells #[.int .u32 0, .int .i64 0] 57)).alloc (.cells #[.int .u8 0, .bool false] 59)).ownsRow w0.heap.size 5 1 v4 (encName a ++ encName b ++ [k]).length (bytesOf (encName a ++ encName b ++ [k]))) := Lib.hid (((HO4X6.out).alloc _).alloc _)
  have HLZ : Hid (((w6.alloc (.cells #[.int .u32 0, .int .i64 0] 57)).alloc (.cells #[.int .u8 0, .bool false] 59)).heap[w6.heap.size]? = some (.cells #[.int .u32 0, .int .i64 0] 57 (0, 0))) := Lib.hid ((Below.heap_alloc _ _ _ (by simp)).trans (heap_alloc_new w6 _))
  have HGZ : Hid (((w6.alloc (.cells #[.int .u32 0, .int .i64 0] 57)).alloc (.cells #[.int .u8 0, .bool false] 59)).heap[w6.heap.size + 1]? = some (.cells #[.int .u8 0, .bool false] 59 (0, 0))) := Lib.hid (by have := heap_alloc_new (w6.alloc (.cells #[.int .u32 0, .int .i64 0] 57)) (.cells #[.int .u8 0, .bool false] 59); simpa using this)
  have HSZ : Hid (w0.heap.size ≤ w6.heap.size) := Lib.hid HB6.out.size
  generalize ((w6.alloc (.cells #[.int .u32 0, .int .i64 0] 57)).alloc (.cells #[.int .u8 0, .bool false] 59)) = wz at HBZ HOZ HLZ HGZ ⊢
  obtain ⟨LB, hLB⟩ : ∃ LB, w6.heap.size = LB := ⟨_, rfl⟩
  rw [hLB] at HLZ HGZ HSZ ⊢
  clear hLB
  have HALL : Hid (∀ W, Mod (fun g => g ≥ w0.heap.size ∧ g ≠ LB ∧ g ≠ LB + 1) wz W → W.cell? ⟨w.heap.size, 2, none⟩ = some (.int .u8 (k.toNat : Int)) ∧ W.cell? ⟨w.heap.size, 3, none⟩ = some (.int .u32 (t : Int)) ∧ W.cell? ⟨w.heap.size, 4, none⟩ = some (.int .u32 (la : Int)) ∧ W.cell? ⟨w.heap.size, 5, none⟩ = some (.int .i64 lb) ∧ W.cell? ⟨w.heap.size, 6, none⟩ = some (.int .u8 (gt.toNat : Int)) ∧ W.cell? ⟨w.heap.size, 7, none⟩ = some (.bool gm) ∧
      W.cell? ⟨LB, 0, none⟩ = some (.int .u32 0) ∧ W.cell? ⟨LB, 1, none⟩ = some (.int .i64 0) ∧ W.cell? ⟨LB + 1, 0, none⟩ = some (.int .u8 0) ∧ W.cell? ⟨LB + 1, 1, none⟩ = some (.bool false)) := Lib.hid (fun W hm => by
    have hx := hm.heap (HXB.out wz HBZ.out) (fun e => by have := HS0.out; omega)
    have hl := hm.heap HLZ.out (fun e => e.2.1 rfl)
    have hg := hm.heap HGZ.out (fun e => e.2.2 rfl)
    refine ⟨?_, ?_, ?_, ?_, ?_, ?_, ?_, ?_, ?_, ?_⟩
    iterate 6 (rw [cell_of_row W _ _ _ _ (0, 0) hx]; rfl)
    iterate 2 (rw [cell_of_row W _ _ _ _ (0, 0) hl]; rfl)
    iterate 2 (rw [cell_of_row W _ _ _ _ (0, 0) hg]; rfl))
  obtain ⟨p2, p3, p4, p5, p6, p7, q0, q1, q2, q3⟩ := HALL.out wz (Mod.refl _ _)
  have HFIN : Hid (∀ W W' v l8, Below wz.heap.size wz W → Adds w0.heap.size W v4 W' v (encName a ++ encName b ++ [k] ++ l8) → l8.length ≤ 2000 → ∀ okv, impOk ⟨a, b, k, t, ⟨la, lb⟩, ⟨gt, gm⟩⟩ = okv → (okv = true → l8 = encMore ⟨a, b, k, t, ⟨la, lb⟩, ⟨gt, gm⟩⟩) → BRes (impOk ⟨a, b, k, t, ⟨la, lb⟩, ⟨gt, gm⟩⟩) (encImp ⟨a, b, k, t, ⟨la, lb⟩, ⟨gt, gm⟩⟩) w (.returned (.tuple #[v, .bool okv])) W') := Lib.hid (fun W W' v l8 hb ha hl okv hok hl8 => by
    have hbz := HBZ.out.trans ((hb.mono HBZ.out.size).trans (ha.below (own_ge HOZ.out) (Nat.le_trans HBZ.out.size hb.size)))
    rw [hok]
    refine bres_of (HB0.out.trans (hbz.mono HB0.out.size)) (own_base ha.1 HB0.out.size) (by have := HL4.out; rw [List.length_append (bs := l8)]; omega) (fun e => ?_)
    rw [hl8 e]
    simp [encImp])
  have HM4 := Lib.hid (fun W (hb : Below wz.heap.size wz W) => (Mod.of_below (T := fun _ => False) hb).own HOZ.out (fun _ _ h => h))
  go_upto_region 8 with fail
  by_cases hk0 : k = 0
  · subst hk0
    have hwt : IntKind.u64.wrap (t : Int) = (t : Int) := IntWalk.u64_in _ (by omega)
    have HU := Lib.hid (bU_any t wz (by omega))
    have hel := Leb.encU_le10 t (by omega)
    have HEM : Hid (Leb.encU t = encMore ⟨a, b, 0, t, ⟨la, lb⟩, ⟨gt, gm⟩⟩) := Lib.hid rfl
    go_wp2_with (first | (go_at_call 18; refine HU.out.mono ?_; rintro e w8 ⟨v8, rfl, ho8, hb8⟩; obtain ⟨A8, c8, n8, v20, w20, rfl, hr20, ha20⟩ := own_app w8 w0.heap.size wz.heap.size v4 _ _ _ (HM4.out w8 hb8) ho8 (by have := HL4.out; omega) (Nat.le_trans HBZ.out.size hb8.size); have HR20 := Lib.hid hr20; have HA20 := Lib.hid ha20; have HB8 := Lib.hid hb8; obtain ⟨r2, r3, r4, r5, r6, r7, s0, s1, s2, s3⟩ := HALL.out w8 (Mod.of_below hb8); clear ho8 hb8 hr20 ha20) | (at_builtin; refine wpList_appends rfl (.tmp 99) (.tmp 100) 36 rfl _ _ _ w20 rfl rfl HR20.out ?_))
    all_goals
      go_ret2
      refine HFIN.out _ _ _ _ HB8.out HA20.out (by omega) _ ?_ (fun _ => HEM.out)
      · simp [impOk, HTB.out]
  · by_cases hk1 : k = 1
    · subst hk1
      have HU := Lib.hid (blims_any la lb wz hla h0 h1)
      have HLB := Lib.hid (moreOk_lim ⟨a, b, 1, t, ⟨la, lb⟩, ⟨gt, gm⟩⟩ (by simp))
      obtain ⟨ok1, hok1⟩ : ∃ ok1, limB lb = ok1 := ⟨_, rfl⟩
      dsimp only at HLB
      rw [hok1] at HU HLB
      clear hok1
      have HMO : Hid ([UInt8.ofNat 112] ++ encLim ⟨la, lb⟩ = encMore ⟨a, b, 1, t, ⟨la, lb⟩, ⟨gt, gm⟩⟩) := Lib.hid rfl
      cases ok1
      all_goals
        go_wp2_with (first | (go_at_call 35; refine HU.out.mono ?_; rintro e w8 ⟨hb8, v8, l8, rfl, ho8, hl8, hx8⟩; have HX8 := Lib.hid hx8; have HL8 := Lib.hid hl8; obtain ⟨A7, c7, n7, v9, w9, rfl, hr9, ha9⟩ := own_app (w8.alloc (.cells #[.int .u8 112] 5)) w8.heap.size wz.heap.size _ _ [UInt8.ofNat 112] _ (own_lit1 w8 w8.heap.size 112 (by omega) (Nat.le_refl _)) (ho8.alloc _) (by simp; omega) (by simp); have hb9 : Below wz.heap.size wz w9 := hb8.trans ((((Below.refl _ _).alloc (Nat.le_refl _) _).trans ((ha9.below (fun g e => by simp [Value.ownBlock] at e; omega) (by simp)))).mono hb8.size); have HR9 := Lib.hid hr9; obtain ⟨A8, c8, n8, v20, w20, rfl, hr20, ha20⟩ := own_app w9 w0.heap.size w8.heap.size v4 _ _ _ (HM4.out w9 hb9) ha9.1 (by have := HL4.out; simp; simp at this; omega) (Nat.le_trans HBZ.out.size hb9.size); have HB8 := Lib.hid hb9; obtain ⟨t2, _, _, _, _, _, _, _, _, _⟩ := HALL.out w9 (Mod.of_below hb9); have HR20 := Lib.hid hr20; have HA20 := Lib.hid ha20; obtain ⟨r2, r3, r4, r5, r6, r7, s0, s1, s2, s3⟩ := HALL.out w8 (Mod.of_below hb8); clear ho8 hb8 hr20 ha20 hx8 hl8 hr9 ha9 hb9) | (at_builtin; refine wpList_appends rfl (.tmp 99) (.tmp 100) 36 rfl _ _ _ w20 rfl rfl HR20.out ?_) | (at_builtin; refine wpList_appends rfl (.tmp 76) (.tmp 77) 36 rfl _ _ _ w9 rfl rfl HR9.out ?_))
        all_goals
          go_ret2
          refine HFIN.out _ _ _ _ HB8.out HA20.out (by have := HL8.out; simp; omega) _ ?_ ?_
          · simp [impOk, HTB.out]
          · intro e; first | (cases e; done) | (rw [HX8.out (by first | exact trivial | rfl)]; exact HMO.out)
    · by_cases hk2 : k = 2
      · subst hk2
        have HU := Lib.hid (blims_any la lb wz hla h0 h1)
        have HLB := Lib.hid (moreOk_lim ⟨a, b, 2, t, ⟨la, lb⟩, ⟨gt, gm⟩⟩ (by simp))
        obtain ⟨ok1, hok1⟩ : ∃ ok1, limB lb = ok1 := ⟨_, rfl⟩
        dsimp only at HLB
        rw [hok1] at HU HLB
        clear hok1
        have HMO : Hid (encLim ⟨la, lb⟩ = encMore ⟨a, b, 2, t, ⟨la, lb⟩, ⟨gt, gm⟩⟩) := Lib.hid rfl
        cases ok1
        all_goals
          go_wp2_with (first | (go_at_call 35; refine HU.out.mono ?_; rintro e w8 ⟨hb8, v8, l8, rfl, ho8, hl8, hx8⟩; have HX8 := Lib.hid hx8; have HL8 := Lib.hid hl8; obtain ⟨A8, c8, n8, v20, w20, rfl, hr20, ha20⟩ := own_app w8 w0.heap.size wz.heap.size v4 _ _ _ (HM4.out w8 hb8) ho8 (by have := HL4.out; omega) (Nat.le_trans HBZ.out.size hb8.size); have HR20 := Lib.hid hr20; have HA20 := Lib.hid ha20; have HB8 := Lib.hid hb8; obtain ⟨r2, r3, r4, r5, r6, r7, s0, s1, s2, s3⟩ := HALL.out w8 (Mod.of_below hb8); clear ho8 hb8 hr20 ha20 hx8 hl8) | (at_builtin; refine wpList_appends rfl (.tmp 99) (.tmp 100) 36 rfl _ _ _ w20 rfl rfl HR20.out ?_))
          all_goals
            go_ret2
            refine HFIN.out _ _ _ _ HB8.out HA20.out (by have := HL8.out; omega) _ ?_ ?_
            · simp [impOk, HTB.out]
            · intro e; first | (cases e; done) | (rw [HX8.out (by first | exact trivial | rfl)]; exact HMO.out)
      · by_cases hk3 : k = 3
        · subst hk3
          have HU := Lib.hid (bglobs_any gt gm wz)
          obtain ⟨ok1, hok1⟩ : ∃ ok1, whole1 gt = ok1 := ⟨_, rfl⟩
          rw [hok1] at HU
          have HLB := Lib.hid hok1
          clear hok1
          have HMO : Hid (encGlob ⟨gt, gm⟩ = encMore ⟨a, b, 3, t, ⟨la, lb⟩, ⟨gt, gm⟩⟩) := Lib.hid rfl
          cases ok1
          all_goals
            go_wp2_with (first | (go_at_call 36; refine HU.out.mono ?_; rintro e w8 ⟨hb8, v8, l8, rfl, ho8, hl8, hx8⟩; have HX8 := Lib.hid hx8; have HL8 := Lib.hid hl8; obtain ⟨A8, c8, n8, v20, w20, rfl, hr20, ha20⟩ := own_app w8 w0.heap.size wz.heap.size v4 _ _ _ (HM4.out w8 hb8) ho8 (by have := HL4.out; omega) (Nat.le_trans HBZ.out.size hb8.size); have HR20 := Lib.hid hr20; have HA20 := Lib.hid ha20; have HB8 := Lib.hid hb8; obtain ⟨r2, r3, r4, r5, r6, r7, s0, s1, s2, s3⟩ := HALL.out w8 (Mod.of_below hb8); clear ho8 hb8 hr20 ha20 hx8 hl8) | (at_builtin; refine wpList_appends rfl (.tmp 99) (.tmp 100) 36 rfl _ _ _ w20 rfl rfl HR20.out ?_))
            all_goals
              go_ret2
              refine HFIN.out _ _ _ _ HB8.out HA20.out (by have := HL8.out; omega) _ ?_ ?_
              · simp [impOk, HTB.out]
              · intro e; first | (cases e; done) | (rw [HX8.out (by first | exact trivial | rfl)]; exact HMO.out)
        · obtain ⟨A8, c8, n8, v20, w20, h80, hr20, ha20⟩ := own_app wz w0.heap.size w0.heap.size v4 (.slice none 0 0) _ [] HOZ.out (World.ownsRow_nil _ _ _ _) (by have := HL4.out; simp; simp at this; omega) HBZ.out.size
          injection h80 with h81 h82 h83
          rw [← h81, ← h82, ← h83] at hr20
          clear h81 h82 h83
          have HR20 := Lib.hid hr20
          have HA20 := Lib.hid ha20
          clear hr20 ha20
          have n0 : ¬ k.toNat = 0 := fun e => hk0 (UInt8.toNat_inj.mp e)
          have n1' : ¬ k.toNat = 1 := fun e => hk1 (UInt8.toNat_inj.mp e)
          have n2' : ¬ k.toNat = 2 := fun e => hk2 (UInt8.toNat_inj.mp e)
          have n3' : ¬ k.toNat = 3 := fun e => hk3 (UInt8.toNat_inj.mp e)
          go_wp2_with (first | (at_builtin; refine wpList_appends rfl (.tmp 99) (.tmp 100) 36 rfl _ _ _ w20 rfl rfl HR20.out ?_))
          all_goals
            go_ret2
            refine HFIN.out _ _ _ _ (Below.refl _ _) HA20.out (by simp) _ ?_ (fun e => by cases e)
            simp [impOk, moreOk, hk0, hk1, hk2, hk3]
set_option maxRecDepth 100000 in
set_option maxHeartbeats 4000000 in
theorem bimps_2 (a b : List UInt8) (k : UInt8) (t la : Nat) (lb : Int) (gt : UInt8) (gm : Bool) (w : World) (ha : a.length ≤ 1000000) (hb : b.length ≤ 1000000) (ht : t < 4294967296) (hla : la < 4294967296) (h0 : -9223372036854775808 ≤ lb) (h1 : lb ≤ 9223372036854775807) (hta : U8.text a = true) (htb : U8.text b = true) :
    Calls Tryz.prog 34 #[.agg #[.string ⟨a.toArray⟩, .string ⟨b.toArray⟩, .int .u8 (k.toNat : Int), .int .u32 (t : Int), .int .u32 (la : Int), .int .i64 lb, .int .u8 (gt.toNat : Int), .bool gm]] w (BRes (impOk ⟨a, b, k, t, ⟨la, lb⟩, ⟨gt, gm⟩⟩) (encImp ⟨a, b, k, t, ⟨la, lb⟩, ⟨gt, gm⟩⟩) w) := by
  have HT1 := Lib.hid (fun W => btext_any a W (by omega))
  have HT2 := Lib.hid (fun W => btext_any b W (by omega))
  have hE1 : (encName a).length ≤ 1000010 := by have := Leb.encU_le10 a.length (by omega); simp [encName]; omega
  have hE2 : (encName b).length ≤ 1000010 := by have := Leb.encU_le10 b.length (by omega); simp [encName]; omega
  obtain ⟨B1, hB1⟩ : ∃ B : ByteArray, B = ⟨a.toArray⟩ := ⟨_, rfl⟩
  obtain ⟨B2, hB2⟩ : ∃ B : ByteArray, B = ⟨b.toArray⟩ := ⟨_, rfl⟩
  have hsz1 : B1.size = a.length := by rw [hB1]; simp [ByteArray.size]
  have hsz2 : B2.size = b.length := by rw [hB2]; simp [ByteArray.size]
  have hd1 : B1.data.toList = a := by rw [hB1]
  have hd2 : B2.data.toList = b := by rw [hB2]
  rw [← hB1] at HT1 ⊢
  rw [← hB2] at HT2 ⊢
  have HV1 := Lib.hid (fun W => bytes_ofE W B1 (by unfold maxLen; omega))
  have HV2 := Lib.hid (fun W => bytes_ofE W B2 (by unfold maxLen; omega))
  rw [hd1, hsz1] at HV1
  rw [hd2, hsz2] at HV2
  clear hB1 hB2 hsz1 hsz2 hd1 hd2
  obtain ⟨n1, hn1⟩ : ∃ n, a.length = n := ⟨_, rfl⟩
  obtain ⟨n2, hn2⟩ : ∃ n, b.length = n := ⟨_, rfl⟩
  rw [hn1] at HV1 ha
  rw [hn2] at HV2 hb
  have HN1 := Lib.hid hn1
  have HN2 := Lib.hid hn2
  clear hn1 hn2
  have HX0 : Hid ((w.alloc (.cells #[.string B1, .string B2, .int .u8 (k.toNat : Int), .int .u32 (t : Int), .int .u32 (la : Int), .int .i64 lb, .int .u8 (gt.toNat : Int), .bool gm] 61)).heap[w.heap.size]? = some (.cells #[.string B1, .string B2, .int .u8 (k.toNat : Int), .int .u32 (t : Int), .int .u32 (la : Int), .int .i64 lb, .int .u8 (gt.toNat : Int), .bool gm] 61 (0, 0))) := Lib.hid (heap_alloc_new w _)
  have HB0 : Hid (Below w.heap.size w (w.alloc (.cells #[.string B1, .string B2, .int .u8 (k.toNat : Int), .int .u32 (t : Int), .int .u32 (la : Int), .int .i64 lb, .int .u8 (gt.toNat : Int), .bool gm] 61))) := Lib.hid ((Below.refl _ _).alloc (Nat.le_refl _) _)
  have HS0 : Hid ((w.alloc (.cells #[.string B1, .string B2, .int .u8 (k.toNat : Int), .int .u32 (t : Int), .int .u32 (la : Int), .int .i64 lb, .int .u8 (gt.toNat : Int), .bool gm] 61)).heap.size = w.heap.size + 1) := Lib.hid (by simp)
  go_enter Tryz.func34, Tryz.ntmps34
  go_upto_region 1 with fail
  generalize (w.alloc (.cells #[.string B1, .string B2, .int .u8 (k.toNat : Int), .int .u32 (t : Int), .int .u32 (la : Int), .int .i64 lb, .int .u8 (gt.toNat : Int), .bool gm] 61)) = w0 at HX0 HB0 HS0 ⊢
  have HXB : Hid (∀ W, Below w0.heap.size w0 W → W.heap[w.heap.size]? = some (.cells #[.string B1, .string B2, .int .u8 (k.toNat : Int), .int .u32 (t : Int), .int .u32 (la : Int), .int .i64 lb, .int .u8 (gt.toNat : Int), .bool gm] 61 (0, 0))) := Lib.hid (fun W hb => (hb.block w.heap.size (by have := HS0.out; omega)).trans HX0.out)
  have HC0 : Hid (∀ W, Below w0.heap.size w0 W → W.cell? ⟨w.heap.size, 0, none⟩ = some (.string B1) ∧ W.cell? ⟨w.heap.size, 1, none⟩ = some (.string B2)) := Lib.hid (fun W hb => ⟨by rw [cell_of_row W _ 0 _ _ (0, 0) (HXB.out W hb)]; rfl, by rw [cell_of_row W _ 1 _ _ (0, 0) (HXB.out W hb)]; rfl⟩)
  refine wp_region_held_drew (S := (fun W => W.cell? ⟨w.heap.size, 0, none⟩ = some (.string B1) ∧ W.cell? ⟨w.heap.size, 1, none⟩ = some (.string B2))) (by kernel_rfl) (HC0.out _ (Below.drew (Below.refl _ _))) (fun hHeld => ?_)
  refine dt 0 rfl (v := ?_) ?_ ?_
  rotate_left
  · (intro wy hSw; (try dsimp only at hSw); go_simp; try with_reducible rfl)
  simp only [Act.put, List.setIfInBounds_toArray, List.set_cons_zero, List.set_cons_succ]
  refine dt 1 rfl (v := ?_) ?_ ?_
  rotate_left
  · (intro wy hSw; (try dsimp only at hSw); obtain ⟨s0, s1⟩ := hSw; go_simp; try with_reducible rfl)
  simp only [Act.put, List.setIfInBounds_toArray, List.set_cons_zero, List.set_cons_succ]
  refine dt 3 rfl (v := ?_) ?_ ?_
  rotate_left
  · (intro wy hSw; (try dsimp only at hSw); go_simp; try with_reducible rfl)
  simp only [Act.put, List.setIfInBounds_toArray, List.set_cons_zero, List.set_cons_succ]
  refine dt 4 rfl (v := ?_) ?_ ?_
  rotate_left
  · (intro wy hSw; (try dsimp only at hSw); obtain ⟨s0, s1⟩ := hSw; go_simp; try with_reducible rfl)
  simp only [Act.put, List.setIfInBounds_toArray, List.set_cons_zero, List.set_cons_succ]
  refine drawn_sole 2 rfl (by kernel_rfl) (fun K hK => ?_)
  go_simp
  refine (HT1.out _).mono ?_
  rintro e wa ⟨va, rfl, hoa, hba⟩
  have HOA := Lib.hid hoa
  have HBA := Lib.hid (show Below w0.heap.size w0 wa from (Below.drew (Below.refl _ _)).trans hba)
  clear hoa hba
  go_wp2_with fail
  refine hK.out _ _ (HC0.out _ HBA.out) (fun hHeld2 => ?_)
  clear hK K hHeld
  have hHeld := hHeld2
  clear hHeld2
  try simp only [Act.put, List.setIfInBounds_toArray, List.set_cons_zero, List.set_cons_succ]
  refine drawn_sole 5 rfl (by kernel_rfl) (fun K hK => ?_)
  go_simp
  refine (HT2.out _).mono ?_
  rintro e wb ⟨vb, rfl, hob, hbb⟩
  have HBB := Lib.hid (HBA.out.trans (hbb.mono HBA.out.size))
  obtain ⟨Ab, cb, rfl, hnb, _, _, _, hhb⟩ := own_sl hob
  obtain ⟨v3, w3, hr3, ha3⟩ := appends_adds wb w0.heap.size (encName b).length cb va (encName a) (encName b) Ab ((Mod.of_below (T := fun _ => False) hbb).own HOA.out (fun _ _ h => h)) hhb rfl (by omega) HBB.out.size
  have HR3 := Lib.hid hr3
  have HB3 := Lib.hid (HBB.out.trans (ha3.below (own_ge HOA.out) HBB.out.size))
  have HO3 := Lib.hid ha3.1
  clear hr3 ha3 hob hbb hhb hnb
  go_wp2_with fail
  refine hK.out _ _ (HC0.out _ HBB.out) (fun hHeld2 => ?_)
  clear hK K hHeld
  have hHeld := hHeld2
  clear hHeld2
  try simp only [Act.put, List.setIfInBounds_toArray, List.set_cons_zero, List.set_cons_succ]
  refine drawn_sole 6 rfl (by kernel_rfl) (fun K hK => ?_)
  rw [if_pos]
  case hc => rfl
  refine wp_appendE (.tmp 12) (.tmp 15) 36 rfl _ _ _ w3 rfl rfl HR3.out ?_
  refine hK.out _ _ (HC0.out _ HB3.out) (fun hHeld2 => ?_)
  clear hK K hHeld
  have hHeld := hHeld2
  clear hHeld2
  try simp only [Act.put, List.setIfInBounds_toArray, List.set_cons_zero, List.set_cons_succ]
  refine dt 7 rfl (v := ?_) ?_ ?_
  rotate_left
  · (intro wy hSw; (try dsimp only at hSw); go_simp; try with_reducible rfl)
  simp only [Act.put, List.setIfInBounds_toArray, List.set_cons_zero, List.set_cons_succ]
  refine wpAnyH_done (by kernel_rfl) ?_ _
  have hl3 : (encName a ++ encName b).length ≤ 2000020 := by rw [List.length_append]; omega
  obtain ⟨v4, w4, hr4, ha4⟩ := append1_adds w3 w0.heap.size v3 (encName a ++ encName b) k HO3.out (by omega) HB3.out.size
  have hb4 := HB3.out.trans (ha4.below (own_ge HO3.out) HB3.out.size)
  have HR4 := Lib.hid hr4
  have HO4 := Lib.hid ha4.1
  have HB4 := Lib.hid hb4
  have z2 : w3.cell? ⟨w.heap.size, 2, none⟩ = some (.int .u8 (k.toNat : Int)) := by rw [cell_of_row w3 _ 2 _ _ (0, 0) (HXB.out w3 HB3.out)]; rfl
  obtain ⟨y0, y1⟩ := HC0.out w4 hb4
  obtain ⟨A5, c5, w5, hr5, hnc5, hcm5, hh5, hb5⟩ := HV1.out w4
  have HB5 := Lib.hid (hb4.trans (hb5.mono hb4.size))
  obtain ⟨x0, x1⟩ := HC0.out w5 HB5.out
  have HVA := Lib.hid (rvalid_any A5 a n1 c5 w5 HN1.out.symm ha hnc5 (by unfold maxLen at hcm5; omega) hh5)
  have HBX5 := Lib.hid hb5
  clear hr4 ha4 hb4 hh5 hb5 hnc5 hcm5
  rw [hta] at HVA
  have HTA := Lib.hid hta
  clear hta
  have HL4 : Hid ((encName a ++ encName b ++ [k]).length ≤ 2000021) := Lib.hid (by rw [List.length_append]; simp; rw [List.length_append] at hl3; omega)
  have HO4X5 : Hid (w5.ownsRow w0.heap.size 5 1 v4 (encName a ++ encName b ++ [k]).length (bytesOf (encName a ++ encName b ++ [k]))) := Lib.hid ((Mod.of_below (T := fun _ => False) HBX5.out).own HO4.out (fun _ _ h => h))
  obtain ⟨A6, c6, w6, hr6, hnc6, hcm6, hh6, hb6⟩ := HV2.out w5
  have HB6 := Lib.hid (HB5.out.trans (hb6.mono HB5.out.size))
  have HVB := Lib.hid (rvalid_any A6 b n2 c6 w6 HN2.out.symm hb hnc6 (by unfold maxLen at hcm6; omega) hh6)
  obtain ⟨x0', x1'⟩ := HC0.out w6 HB6.out
  have HO4X6 : Hid (w6.ownsRow w0.heap.size 5 1 v4 (encName a ++ encName b ++ [k]).length (bytesOf (encName a ++ encName b ++ [k]))) := Lib.hid ((Mod.of_below (T := fun _ => False) (HBX5.out.trans (hb6.mono HBX5.out.size))).own HO4.out (fun _ _ h => h))
  clear hh6 hb6 hnc6 hcm6
  rw [htb] at HVB
  have HTB := Lib.hid htb
  clear htb
  go_upto_region 7 with (first | (at_builtin; refine wpList_appends rfl (.tmp 17) (.tmp 20) 36 rfl _ _ _ w4 rfl rfl HR4.out ?_) | (go_at_call 39; refine HVA.out.mono ?_; rintro e wq ⟨rfl, rfl⟩; clear HVA) | (go_at_call 39; refine HVB.out.mono ?_; rintro e wq ⟨rfl, rfl⟩; clear HVB))
  have HBZ : Hid (Below w0.heap.size w0 ((w6.alloc (.cells #[.int .u32 0, .int .i64 0] 57)).alloc (.cells #[.int .u8 0, .bool false] 59))) := Lib.hid ((HB6.out.alloc HB6.out.size _).alloc (Nat.le_trans HB6.out.size (by simp)) _)
  have HOZ : Hid (((w6.alloc (.cells #[.int .u32 0, .int .i64 0] 57)).alloc (.cells #[.int .u8 0, .bool false] 59)).ownsRow w0.heap.size 5 1 v4 (encName a ++ encName b ++ [k]).length (bytesOf (encName a ++ encName b ++ [k]))) := Lib.hid (((HO4X6.out).alloc _).alloc _)
  have HLZ : Hid (((w6.alloc (.cells #[.int .u32 0, .int .i64 0] 57)).alloc (.cells #[.int .u8 0, .bool false] 59)).heap[w6.heap.size]? = some (.cells #[.int .u32 0, .int .i64 0] 57 (0, 0))) := Lib.hid ((Below.heap_alloc _ _ _ (by simp)).trans (heap_alloc_new w6 _))
  have HGZ : Hid (((w6.alloc (.cells #[.int .u32 0, .int .i64 0] 57)).alloc (.cells #[.int .u8 0, .bool false] 59)).heap[w6.heap.size + 1]? = some (.cells #[.int .u8 0, .bool false] 59 (0, 0))) := Lib.hid (by have := heap_alloc_new (w6.alloc (.cells #[.int .u32 0, .int .i64 0] 57)) (.cells #[.int .u8 0, .bool false] 59); simpa using this)
  have HSZ : Hid (w0.heap.size ≤ w6.heap.size) := Lib.hid HB6.out.size
  generalize ((w6.alloc (.cells #[.int .u32 0, .int .i64 0] 57)).alloc (.cells #[.int .u8 0, .bool false] 59)) = wz at HBZ HOZ HLZ HGZ ⊢
  obtain ⟨LB, hLB⟩ : ∃ LB, w6.heap.size = LB := ⟨_, rfl⟩
  rw [hLB] at HLZ HGZ HSZ ⊢
  clear hLB
  have HALL : Hid (∀ W, Mod (fun g => g ≥ w0.heap.size ∧ g ≠ LB ∧ g ≠ LB + 1) wz W → W.cell? ⟨w.heap.size, 2, none⟩ = some (.int .u8 (k.toNat : Int)) ∧ W.cell? ⟨w.heap.size, 3, none⟩ = some (.int .u32 (t : Int)) ∧ W.cell? ⟨w.heap.size, 4, none⟩ = some (.int .u32 (la : Int)) ∧ W.cell? ⟨w.heap.size, 5, none⟩ = some (.int .i64 lb) ∧ W.cell? ⟨w.heap.size, 6, none⟩ = some (.int .u8 (gt.toNat : Int)) ∧ W.cell? ⟨w.heap.size, 7, none⟩ = some (.bool gm) ∧
      W.cell? ⟨LB, 0, none⟩ = some (.int .u32 0) ∧ W.cell? ⟨LB, 1, none⟩ = some (.int .i64 0) ∧ W.cell? ⟨LB + 1, 0, none⟩ = some (.int .u8 0) ∧ W.cell? ⟨LB + 1, 1, none⟩ = some (.bool false)) := Lib.hid (fun W hm => by
    have hx := hm.heap (HXB.out wz HBZ.out) (fun e => by have := HS0.out; omega)
    have hl := hm.heap HLZ.out (fun e => e.2.1 rfl)
    have hg := hm.heap HGZ.out (fun e => e.2.2 rfl)
    refine ⟨?_, ?_, ?_, ?_, ?_, ?_, ?_, ?_, ?_, ?_⟩
    iterate 6 (rw [cell_of_row W _ _ _ _ (0, 0) hx]; rfl)
    iterate 2 (rw [cell_of_row W _ _ _ _ (0, 0) hl]; rfl)
    iterate 2 (rw [cell_of_row W _ _ _ _ (0, 0) hg]; rfl))
  obtain ⟨p2, p3, p4, p5, p6, p7, q0, q1, q2, q3⟩ := HALL.out wz (Mod.refl _ _)
  have HFIN : Hid (∀ W W' v l8, Below wz.heap.size wz W → Adds w0.heap.size W v4 W' v (encName a ++ encName b ++ [k] ++ l8) → l8.length ≤ 2000 → ∀ okv, impOk ⟨a, b, k, t, ⟨la, lb⟩, ⟨gt, gm⟩⟩ = okv → (okv = true → l8 = encMore ⟨a, b, k, t, ⟨la, lb⟩, ⟨gt, gm⟩⟩) → BRes (impOk ⟨a, b, k, t, ⟨la, lb⟩, ⟨gt, gm⟩⟩) (encImp ⟨a, b, k, t, ⟨la, lb⟩, ⟨gt, gm⟩⟩) w (.returned (.tuple #[v, .bool okv])) W') := Lib.hid (fun W W' v l8 hb ha hl okv hok hl8 => by
    have hbz := HBZ.out.trans ((hb.mono HBZ.out.size).trans (ha.below (own_ge HOZ.out) (Nat.le_trans HBZ.out.size hb.size)))
    rw [hok]
    refine bres_of (HB0.out.trans (hbz.mono HB0.out.size)) (own_base ha.1 HB0.out.size) (by have := HL4.out; rw [List.length_append (bs := l8)]; omega) (fun e => ?_)
    rw [hl8 e]
    simp [encImp])
  have HM4 := Lib.hid (fun W (hb : Below wz.heap.size wz W) => (Mod.of_below (T := fun _ => False) hb).own HOZ.out (fun _ _ h => h))
  go_upto_region 8 with fail
  by_cases hk0 : k = 0
  · subst hk0
    have hwt : IntKind.u64.wrap (t : Int) = (t : Int) := IntWalk.u64_in _ (by omega)
    have HU := Lib.hid (bU_any t wz (by omega))
    have hel := Leb.encU_le10 t (by omega)
    have HEM : Hid (Leb.encU t = encMore ⟨a, b, 0, t, ⟨la, lb⟩, ⟨gt, gm⟩⟩) := Lib.hid rfl
    go_wp2_with (first | (go_at_call 18; refine HU.out.mono ?_; rintro e w8 ⟨v8, rfl, ho8, hb8⟩; obtain ⟨A8, c8, n8, v20, w20, rfl, hr20, ha20⟩ := own_app w8 w0.heap.size wz.heap.size v4 _ _ _ (HM4.out w8 hb8) ho8 (by have := HL4.out; omega) (Nat.le_trans HBZ.out.size hb8.size); have HR20 := Lib.hid hr20; have HA20 := Lib.hid ha20; have HB8 := Lib.hid hb8; obtain ⟨r2, r3, r4, r5, r6, r7, s0, s1, s2, s3⟩ := HALL.out w8 (Mod.of_below hb8); clear ho8 hb8 hr20 ha20) | (at_builtin; refine wpList_appends rfl (.tmp 99) (.tmp 100) 36 rfl _ _ _ w20 rfl rfl HR20.out ?_))
    all_goals
      go_ret2
      refine HFIN.out _ _ _ _ HB8.out HA20.out (by omega) _ ?_ (fun _ => HEM.out)
      · have q1 := HTA.out; have q2 := HTB.out; (try have q3 := HLB.out); have q4 : gt = 0 ↔ gt.toNat = 0 := ⟨fun e => by rw [e]; rfl, fun e => UInt8.toNat_inj.mp e⟩; simp [impOk, moreOk, *]
  · by_cases hk1 : k = 1
    · subst hk1
      have HU := Lib.hid (blims_any la lb wz hla h0 h1)
      have HLB := Lib.hid (moreOk_lim ⟨a, b, 1, t, ⟨la, lb⟩, ⟨gt, gm⟩⟩ (by simp))
      obtain ⟨ok1, hok1⟩ : ∃ ok1, limB lb = ok1 := ⟨_, rfl⟩
      dsimp only at HLB
      rw [hok1] at HU HLB
      clear hok1
      have HMO : Hid ([UInt8.ofNat 112] ++ encLim ⟨la, lb⟩ = encMore ⟨a, b, 1, t, ⟨la, lb⟩, ⟨gt, gm⟩⟩) := Lib.hid rfl
      cases ok1
      all_goals
        go_wp2_with (first | (go_at_call 35; refine HU.out.mono ?_; rintro e w8 ⟨hb8, v8, l8, rfl, ho8, hl8, hx8⟩; have HX8 := Lib.hid hx8; have HL8 := Lib.hid hl8; obtain ⟨A7, c7, n7, v9, w9, rfl, hr9, ha9⟩ := own_app (w8.alloc (.cells #[.int .u8 112] 5)) w8.heap.size wz.heap.size _ _ [UInt8.ofNat 112] _ (own_lit1 w8 w8.heap.size 112 (by omega) (Nat.le_refl _)) (ho8.alloc _) (by simp; omega) (by simp); have hb9 : Below wz.heap.size wz w9 := hb8.trans ((((Below.refl _ _).alloc (Nat.le_refl _) _).trans ((ha9.below (fun g e => by simp [Value.ownBlock] at e; omega) (by simp)))).mono hb8.size); have HR9 := Lib.hid hr9; obtain ⟨A8, c8, n8, v20, w20, rfl, hr20, ha20⟩ := own_app w9 w0.heap.size w8.heap.size v4 _ _ _ (HM4.out w9 hb9) ha9.1 (by have := HL4.out; simp; simp at this; omega) (Nat.le_trans HBZ.out.size hb9.size); have HB8 := Lib.hid hb9; obtain ⟨t2, _, _, _, _, _, _, _, _, _⟩ := HALL.out w9 (Mod.of_below hb9); have HR20 := Lib.hid hr20; have HA20 := Lib.hid ha20; obtain ⟨r2, r3, r4, r5, r6, r7, s0, s1, s2, s3⟩ := HALL.out w8 (Mod.of_below hb8); clear ho8 hb8 hr20 ha20 hx8 hl8 hr9 ha9 hb9) | (at_builtin; refine wpList_appends rfl (.tmp 99) (.tmp 100) 36 rfl _ _ _ w20 rfl rfl HR20.out ?_) | (at_builtin; refine wpList_appends rfl (.tmp 76) (.tmp 77) 36 rfl _ _ _ w9 rfl rfl HR9.out ?_))
        all_goals
          go_ret2
          refine HFIN.out _ _ _ _ HB8.out HA20.out (by have := HL8.out; simp; omega) _ ?_ ?_
          · have q1 := HTA.out; have q2 := HTB.out; have q3 := HLB.out; have q4 : gt = 0 ↔ gt.toNat = 0 := ⟨fun e => by rw [e]; rfl, fun e => UInt8.toNat_inj.mp e⟩; simp only [impOk]; rw [q1, q2, q3]; simp [*]
          · intro e; first | (cases e; done) | (rw [HX8.out (by first | exact trivial | rfl)]; exact HMO.out)
    · by_cases hk2 : k = 2
      · subst hk2
        have HU := Lib.hid (blims_any la lb wz hla h0 h1)
        have HLB := Lib.hid (moreOk_lim ⟨a, b, 2, t, ⟨la, lb⟩, ⟨gt, gm⟩⟩ (by simp))
        obtain ⟨ok1, hok1⟩ : ∃ ok1, limB lb = ok1 := ⟨_, rfl⟩
        dsimp only at HLB
        rw [hok1] at HU HLB
        clear hok1
        have HMO : Hid (encLim ⟨la, lb⟩ = encMore ⟨a, b, 2, t, ⟨la, lb⟩, ⟨gt, gm⟩⟩) := Lib.hid rfl
        cases ok1
        all_goals
          go_wp2_with (first | (go_at_call 35; refine HU.out.mono ?_; rintro e w8 ⟨hb8, v8, l8, rfl, ho8, hl8, hx8⟩; have HX8 := Lib.hid hx8; have HL8 := Lib.hid hl8; obtain ⟨A8, c8, n8, v20, w20, rfl, hr20, ha20⟩ := own_app w8 w0.heap.size wz.heap.size v4 _ _ _ (HM4.out w8 hb8) ho8 (by have := HL4.out; omega) (Nat.le_trans HBZ.out.size hb8.size); have HR20 := Lib.hid hr20; have HA20 := Lib.hid ha20; have HB8 := Lib.hid hb8; obtain ⟨r2, r3, r4, r5, r6, r7, s0, s1, s2, s3⟩ := HALL.out w8 (Mod.of_below hb8); clear ho8 hb8 hr20 ha20 hx8 hl8) | (at_builtin; refine wpList_appends rfl (.tmp 99) (.tmp 100) 36 rfl _ _ _ w20 rfl rfl HR20.out ?_))
          all_goals
            go_ret2
            refine HFIN.out _ _ _ _ HB8.out HA20.out (by have := HL8.out; omega) _ ?_ ?_
            · have q1 := HTA.out; have q2 := HTB.out; have q3 := HLB.out; have q4 : gt = 0 ↔ gt.toNat = 0 := ⟨fun e => by rw [e]; rfl, fun e => UInt8.toNat_inj.mp e⟩; simp only [impOk]; rw [q1, q2, q3]; simp [*]
            · intro e; first | (cases e; done) | (rw [HX8.out (by first | exact trivial | rfl)]; exact HMO.out)
      · by_cases hk3 : k = 3
        · subst hk3
          have HU := Lib.hid (bglobs_any gt gm wz)
          obtain ⟨ok1, hok1⟩ : ∃ ok1, whole1 gt = ok1 := ⟨_, rfl⟩
          rw [hok1] at HU
          have HLB := Lib.hid hok1
          clear hok1
          have HMO : Hid (encGlob ⟨gt, gm⟩ = encMore ⟨a, b, 3, t, ⟨la, lb⟩, ⟨gt, gm⟩⟩) := Lib.hid rfl
          cases ok1
          all_goals
            go_wp2_with (first | (go_at_call 36; refine HU.out.mono ?_; rintro e w8 ⟨hb8, v8, l8, rfl, ho8, hl8, hx8⟩; have HX8 := Lib.hid hx8; have HL8 := Lib.hid hl8; obtain ⟨A8, c8, n8, v20, w20, rfl, hr20, ha20⟩ := own_app w8 w0.heap.size wz.heap.size v4 _ _ _ (HM4.out w8 hb8) ho8 (by have := HL4.out; omega) (Nat.le_trans HBZ.out.size hb8.size); have HR20 := Lib.hid hr20; have HA20 := Lib.hid ha20; have HB8 := Lib.hid hb8; obtain ⟨r2, r3, r4, r5, r6, r7, s0, s1, s2, s3⟩ := HALL.out w8 (Mod.of_below hb8); clear ho8 hb8 hr20 ha20 hx8 hl8) | (at_builtin; refine wpList_appends rfl (.tmp 99) (.tmp 100) 36 rfl _ _ _ w20 rfl rfl HR20.out ?_))
            all_goals
              go_ret2
              refine HFIN.out _ _ _ _ HB8.out HA20.out (by have := HL8.out; omega) _ ?_ ?_
              · have q1 := HTA.out; have q2 := HTB.out; (try have q3 := HLB.out); have q4 : gt = 0 ↔ gt.toNat = 0 := ⟨fun e => by rw [e]; rfl, fun e => UInt8.toNat_inj.mp e⟩; simp [impOk, moreOk, *]
              · intro e; first | (cases e; done) | (rw [HX8.out (by first | exact trivial | rfl)]; exact HMO.out)
        · obtain ⟨A8, c8, n8, v20, w20, h80, hr20, ha20⟩ := own_app wz w0.heap.size w0.heap.size v4 (.slice none 0 0) _ [] HOZ.out (World.ownsRow_nil _ _ _ _) (by have := HL4.out; simp; simp at this; omega) HBZ.out.size
          injection h80 with h81 h82 h83
          rw [← h81, ← h82, ← h83] at hr20
          clear h81 h82 h83
          have HR20 := Lib.hid hr20
          have HA20 := Lib.hid ha20
          clear hr20 ha20
          have n0 : ¬ k.toNat = 0 := fun e => hk0 (UInt8.toNat_inj.mp e)
          have n1' : ¬ k.toNat = 1 := fun e => hk1 (UInt8.toNat_inj.mp e)
          have n2' : ¬ k.toNat = 2 := fun e => hk2 (UInt8.toNat_inj.mp e)
          have n3' : ¬ k.toNat = 3 := fun e => hk3 (UInt8.toNat_inj.mp e)
          go_wp2_with (first | (at_builtin; refine wpList_appends rfl (.tmp 99) (.tmp 100) 36 rfl _ _ _ w20 rfl rfl HR20.out ?_))
          all_goals
            go_ret2
            refine HFIN.out _ _ _ _ (Below.refl _ _) HA20.out (by simp) _ ?_ (fun e => by cases e)
            simp [impOk, moreOk, hk0, hk1, hk2, hk3]
theorem bimps_any (a b : List UInt8) (k : UInt8) (t la : Nat) (lb : Int) (gt : UInt8) (gm : Bool) (w : World) (ha : a.length ≤ 1000000) (hb : b.length ≤ 1000000) (ht : t < 4294967296) (hla : la < 4294967296) (h0 : -9223372036854775808 ≤ lb) (h1 : lb ≤ 9223372036854775807) :
    Calls Tryz.prog 34 #[.agg #[.string ⟨a.toArray⟩, .string ⟨b.toArray⟩, .int .u8 (k.toNat : Int), .int .u32 (t : Int), .int .u32 (la : Int), .int .i64 lb, .int .u8 (gt.toNat : Int), .bool gm]] w (BRes (impOk ⟨a, b, k, t, ⟨la, lb⟩, ⟨gt, gm⟩⟩) (encImp ⟨a, b, k, t, ⟨la, lb⟩, ⟨gt, gm⟩⟩) w) := by
  cases hta : U8.text a with
  | false => exact bimps_0 a b k t la lb gt gm w ha hb ht hla h0 h1 hta
  | true =>
    cases htb : U8.text b with
    | false => exact bimps_1 a b k t la lb gt gm w ha hb ht hla h0 h1 hta htb
    | true => exact bimps_2 a b k t la lb gt gm w ha hb ht hla h0 h1 hta htb
end Go.Proofs.YtgnbkfkiigcdgaaGreatDoor
