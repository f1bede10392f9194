/-
  The walk over BinSections, given what Decode, Split and Join do. (gen/binsecs.py)
-/
import Derived.Test.YtaloenmpidbhlaaDoorBinKnown
import Derived.Test.YtaloenmpidbhlaaDoorSecMore
import Derived.Test.YtaloenmpidbhlaaDoorSecCon
import Derived.Test.YtaloenmpidbhlaaDoorDrawn
import Derived.Deep.CutRange
namespace Go.Proofs.YtaloenmpidbhlaaDoor
open Go.RowKit Ins Bin Sec
theorem dPost_form {l : List UInt8} {w w' : World} {e : Ending} (hp : DPost l w e w') : ∃ a1 n1 x1 a2 n2 x2 a3 n3 x3 a4 n4 x4 a5 n5 x5 a6 n6 x6 a7 n7 x7 a8 n8 x8 a9 n9 x9 a10 n10 x10 hst st k, e = .returned (.tuple #[.agg #[.slice a1 n1 x1, .slice a2 n2 x2, .slice a3 n3 x3, .slice a4 n4 x4, .slice a5 n5 x5, .slice a6 n6 x6, .slice a7 n7 x7, .bool hst, .int .u32 (st : Int), .slice a8 n8 x8, .slice a9 n9 x9, .slice a10 n10 x10], .int .i64 k]) ∧ Below w.heap.size w w' ∧ ((∃ j, dec l = .error j) → (k == 0) = false) := by
  unfold DPost at hp
  obtain ⟨hb, hp⟩ := hp
  cases h : dec l with
  | error j =>
    rw [h] at hp
    obtain ⟨v, he, hm⟩ := hp
    obtain ⟨a1, x1, a2, x2, a3, x3, a4, x4, a5, x5, a6, x6, a7, x7, a8, x8, a9, x9, a10, x10, rfl, _⟩ := modV_at hm
    have := dec_er h
    exact ⟨a1, _, x1, a2, _, x2, a3, _, x3, a4, _, x4, a5, _, x5, a6, _, x6, a7, _, x7, a8, _, x8, a9, _, x9, a10, _, x10, _, _, _, he, hb, fun _ => by simp; omega⟩
  | ok m =>
    rw [h] at hp
    obtain ⟨v, he, hm⟩ := hp
    obtain ⟨a1, x1, a2, x2, a3, x3, a4, x4, a5, x5, a6, x6, a7, x7, a8, x8, a9, x9, a10, x10, rfl, _⟩ := modV_at hm
    exact ⟨a1, _, x1, a2, _, x2, a3, _, x3, a4, _, x4, a5, _, x5, a6, _, x6, a7, _, x7, a8, _, x8, a9, _, x9, a10, _, x10, _, _, _, he, hb, fun ⟨j, hj⟩ => by cases hj⟩
theorem wp_appends2 {P : Program} {w : World} {o : Oper} {a : Act} {K : Act → World → Prop} {Q : Exit → Act → World → Prop} (s x : Operand) (t : TypeId)
    (ho : o.op = .call { callee := .builtin .append, args := #[s, x], argTypes := #[t, t] }) (v u r : Value) (w' : World) (hs : a.eval s = v) (hx : a.eval x = u)
    (hrun : (Builtin.append_ #[t, t] o.type #[v, u]).run P w = .ok r w') (h : K (a.put o.dst r) w') : Oper.wp P o a w K Q := by
  unfold Oper.wp execOp
  simp only [ho, resolve, invoke, builtin, Sem.run_bind, Sem.run_pure, Result.andThen_ok, List.map_toArray, List.map_cons, List.map_nil, hs, hx, hrun]
  exact h
theorem cells12 {w : World} {X : Nat} {o0 o1 o2 o3 o4 o5 o6 o7 o8 o9 o10 o11 : Value} {t : TypeId} (h : w.heap[X]? = some (.cells #[o0, o1, o2, o3, o4, o5, o6, o7, o8, o9, o10, o11] t (0, 0))) : w.cell? ⟨X, 0, none⟩ = some o0 ∧ w.cell? ⟨X, 1, none⟩ = some o1 ∧ w.cell? ⟨X, 2, none⟩ = some o2 ∧ w.cell? ⟨X, 3, none⟩ = some o3 ∧ w.cell? ⟨X, 4, none⟩ = some o4 ∧ w.cell? ⟨X, 5, none⟩ = some o5 ∧ w.cell? ⟨X, 6, none⟩ = some o6 ∧ w.cell? ⟨X, 7, none⟩ = some o7 ∧ w.cell? ⟨X, 8, none⟩ = some o8 ∧ w.cell? ⟨X, 9, none⟩ = some o9 ∧ w.cell? ⟨X, 10, none⟩ = some o10 ∧ w.cell? ⟨X, 11, none⟩ = some o11 := by
  refine ⟨?_, ?_, ?_, ?_, ?_, ?_, ?_, ?_, ?_, ?_, ?_, ?_⟩ <;> (rw [cell_of_row w X _ _ t (0, 0) h]; rfl)
theorem frozen12 {w : World} {X : Nat} {cs : Array Value} {t : TypeId} (h : w.heap[X]? = some (.cells cs t (0, 0))) : w.frozen? ⟨X, 0, none⟩ = false ∧ w.frozen? ⟨X, 1, none⟩ = false ∧ w.frozen? ⟨X, 2, none⟩ = false ∧ w.frozen? ⟨X, 3, none⟩ = false ∧ w.frozen? ⟨X, 4, none⟩ = false ∧ w.frozen? ⟨X, 5, none⟩ = false ∧ w.frozen? ⟨X, 6, none⟩ = false ∧ w.frozen? ⟨X, 7, none⟩ = false ∧ w.frozen? ⟨X, 8, none⟩ = false ∧ w.frozen? ⟨X, 9, none⟩ = false ∧ w.frozen? ⟨X, 10, none⟩ = false ∧ w.frozen? ⟨X, 11, none⟩ = false := by
  refine ⟨?_, ?_, ?_, ?_, ?_, ?_, ?_, ?_, ?_, ?_, ?_, ?_⟩ <;> exact frozen_of_row w X _ _ t h
theorem set12 {w : World} {X : Nat} {o0 o1 o2 o3 o4 o5 o6 o7 o8 o9 o10 o11 u0 u1 u2 u3 u4 u5 u6 u7 u8 u9 u10 u11 : Value} {t : TypeId} (h : w.heap[X]? = some (.cells #[o0, o1, o2, o3, o4, o5, o6, o7, o8, o9, o10, o11] t (0, 0))) : ((((((((((((w.setCell ⟨X, 0, none⟩ (u0)).setCell ⟨X, 1, none⟩ (u1)).setCell ⟨X, 2, none⟩ (u2)).setCell ⟨X, 3, none⟩ (u3)).setCell ⟨X, 4, none⟩ (u4)).setCell ⟨X, 5, none⟩ (u5)).setCell ⟨X, 6, none⟩ (u6)).setCell ⟨X, 7, none⟩ (u7)).setCell ⟨X, 8, none⟩ (u8)).setCell ⟨X, 9, none⟩ (u9)).setCell ⟨X, 10, none⟩ (u10)).setCell ⟨X, 11, none⟩ (u11)).heap[X]? = some (.cells #[u0, u1, u2, u3, u4, u5, u6, u7, u8, u9, u10, u11] t (0, 0)) := by
  have g0 := heap_setCell_same _ X 0 _ t u0 h
  simp only [List.setIfInBounds_toArray, List.set_cons_zero] at g0
  have g1 := heap_setCell_same _ X 1 _ t u1 g0
  simp only [List.setIfInBounds_toArray, List.set_cons_zero, List.set_cons_succ] at g1
  have g2 := heap_setCell_same _ X 2 _ t u2 g1
  simp only [List.setIfInBounds_toArray, List.set_cons_zero, List.set_cons_succ] at g2
  have g3 := heap_setCell_same _ X 3 _ t u3 g2
  simp only [List.setIfInBounds_toArray, List.set_cons_zero, List.set_cons_succ] at g3
  have g4 := heap_setCell_same _ X 4 _ t u4 g3
  simp only [List.setIfInBounds_toArray, List.set_cons_zero, List.set_cons_succ] at g4
  have g5 := heap_setCell_same _ X 5 _ t u5 g4
  simp only [List.setIfInBounds_toArray, List.set_cons_zero, List.set_cons_succ] at g5
  have g6 := heap_setCell_same _ X 6 _ t u6 g5
  simp only [List.setIfInBounds_toArray, List.set_cons_zero, List.set_cons_succ] at g6
  have g7 := heap_setCell_same _ X 7 _ t u7 g6
  simp only [List.setIfInBounds_toArray, List.set_cons_zero, List.set_cons_succ] at g7
  have g8 := heap_setCell_same _ X 8 _ t u8 g7
  simp only [List.setIfInBounds_toArray, List.set_cons_zero, List.set_cons_succ] at g8
  have g9 := heap_setCell_same _ X 9 _ t u9 g8
  simp only [List.setIfInBounds_toArray, List.set_cons_zero, List.set_cons_succ] at g9
  have g10 := heap_setCell_same _ X 10 _ t u10 g9
  simp only [List.setIfInBounds_toArray, List.set_cons_zero, List.set_cons_succ] at g10
  have g11 := heap_setCell_same _ X 11 _ t u11 g10
  simp only [List.setIfInBounds_toArray, List.set_cons_zero, List.set_cons_succ] at g11
  simpa using g11
theorem mod12 (w : World) (X : Nat) (u0 u1 u2 u3 u4 u5 u6 u7 u8 u9 u10 u11 : Value) : Mod (fun b => b = X) w ((((((((((((w.setCell ⟨X, 0, none⟩ (u0)).setCell ⟨X, 1, none⟩ (u1)).setCell ⟨X, 2, none⟩ (u2)).setCell ⟨X, 3, none⟩ (u3)).setCell ⟨X, 4, none⟩ (u4)).setCell ⟨X, 5, none⟩ (u5)).setCell ⟨X, 6, none⟩ (u6)).setCell ⟨X, 7, none⟩ (u7)).setCell ⟨X, 8, none⟩ (u8)).setCell ⟨X, 9, none⟩ (u9)).setCell ⟨X, 10, none⟩ (u10)).setCell ⟨X, 11, none⟩ (u11)) := by
  refine Mod.setCell (T := fun b => b = X) ?_ (fun _ => rfl) _
  refine Mod.setCell (T := fun b => b = X) ?_ (fun _ => rfl) _
  refine Mod.setCell (T := fun b => b = X) ?_ (fun _ => rfl) _
  refine Mod.setCell (T := fun b => b = X) ?_ (fun _ => rfl) _
  refine Mod.setCell (T := fun b => b = X) ?_ (fun _ => rfl) _
  refine Mod.setCell (T := fun b => b = X) ?_ (fun _ => rfl) _
  refine Mod.setCell (T := fun b => b = X) ?_ (fun _ => rfl) _
  refine Mod.setCell (T := fun b => b = X) ?_ (fun _ => rfl) _
  refine Mod.setCell (T := fun b => b = X) ?_ (fun _ => rfl) _
  refine Mod.setCell (T := fun b => b = X) ?_ (fun _ => rfl) _
  refine Mod.setCell (T := fun b => b = X) ?_ (fun _ => rfl) _
  refine Mod.setCell (T := fun b => b = X) ?_ (fun _ => rfl) _
  exact Mod.refl _ w
theorem len_sec : ∀ (xs : List S), 2 * xs.length ≤ (Sec.encAll xs).length
  | [] => by simp [Sec.encAll]
  | x :: xs => by
    have h1 := len_sec xs
    have h2 := Leb.encU_pos x.b.length
    have e : Sec.encAll (x :: xs) = Sec.enc x ++ Sec.encAll xs := by simp [Sec.encAll]
    rw [e, List.length_append, List.length_cons]
    simp only [Sec.enc, List.length_cons, List.length_append]
    omega
set_option maxRecDepth 100000 in
set_option maxHeartbeats 4000000 in
/-- What is no module, or too long. -/
theorem binSections_no (hd : DecOk) (A : Option Addr) (l : List UInt8) (n c : Nat) (less : Int) (w : World) (hA : Has w w.heap.size A l) (hn : n = l.length) (hn47 : n ≤ 140737488355328) (hnc : n ≤ c) (hcm : c ≤ maxLen) (hAc : A = none → c = 0) (hT : Tb w) (hno : 3000 < n ∨ ∃ j, dec l = .error j) :
    Calls Tryd.prog 4 #[.slice A n c, .int .i64 less] w fun e w' => e = .returned (.bool true) ∧ Below w.heap.size w w' := by
  have HK := Lib.hid (known6 hd w hT)
  have HD := Lib.hid (fun W (hb : Below w.heap.size w W) => hd A l n c W (hA.on hb) hn hn47 hnc hcm hAc (hT.on hb))
  have HF := Lib.hid (fun (w w' : World) (e : Ending) (hp : DPost l w e w') => dPost_form hp)
  clear hd hT hA hn hAc
  by_cases hbig : 3000 < n
  · have hbi : (3000 : Int) < (n : Int) := by omega
    clear hno hbig
    go_enter Tryd.func4, Tryd.ntmps4
    go_wp2_with (first | (go_at_call 5; refine HK.out.mono ?_; rintro e w1 ⟨rfl, hb⟩; have HB := Lib.hid hb; clear hb) | (go_at_call 6; refine (HD.out _ HB.out).mono ?_; intro e w2 hp; obtain ⟨a1, n1, x1, a2, n2, x2, a3, n3, x3, a4, n4, x4, a5, n5, x5, a6, n6, x6, a7, n7, x7, a8, n8, x8, a9, n9, x9, a10, n10, x10, hst, st, k, rfl, hb, _⟩ := HF.out _ _ _ hp; have HB2 := Lib.hid ((HB.out.trans (hb.mono HB.out.size)).alloc (Nat.le_trans HB.out.size hb.size) (.cells #[.slice a1 n1 x1, .slice a2 n2 x2, .slice a3 n3 x3, .slice a4 n4 x4, .slice a5 n5 x5, .slice a6 n6 x6, .slice a7 n7 x7, .bool hst, .int .u32 (st : Int), .slice a8 n8 x8, .slice a9 n9 x9, .slice a10 n10 x10] 35)); clear hp hb))
    go_ret
    exact ⟨rfl, HB2.out⟩
  · have hbi : decide ((3000 : Int) < (n : Int)) = false := decide_eq_false (by omega)
    have HNO : Hid (∃ j, dec l = .error j) := Lib.hid (hno.resolve_left hbig)
    clear hno hbig
    go_enter Tryd.func4, Tryd.ntmps4
    go_wp2_with (first | (go_at_call 5; refine HK.out.mono ?_; rintro e w1 ⟨rfl, hb⟩; have HB := Lib.hid hb; clear hb) | (go_at_call 6; refine (HD.out _ HB.out).mono ?_; intro e w2 hp; obtain ⟨a1, n1, x1, a2, n2, x2, a3, n3, x3, a4, n4, x4, a5, n5, x5, a6, n6, x6, a7, n7, x7, a8, n8, x8, a9, n9, x9, a10, n10, x10, hst, st, k, rfl, hb, hk⟩ := HF.out _ _ _ hp; have hk0 := hk HNO.out; have HB2 := Lib.hid ((HB.out.trans (hb.mono HB.out.size)).alloc (Nat.le_trans HB.out.size hb.size) (.cells #[.slice a1 n1 x1, .slice a2 n2 x2, .slice a3 n3 x3, .slice a4 n4 x4, .slice a5 n5 x5, .slice a6 n6 x6, .slice a7 n7 x7, .bool hst, .int .u32 (st : Int), .slice a8 n8 x8, .slice a9 n9 x9, .slice a10 n10 x10] 35)); clear hp hb hk))
    go_ret
    exact ⟨rfl, HB2.out⟩
set_option maxRecDepth 100000 in
set_option maxHeartbeats 8000000 in
theorem binSections_yes (hd : DecOk) (hs : SplitOk) (hj : JoinOk) (A : Option Addr) (l : List UInt8) (n c : Nat) (less : Int) (w : World) (hA : Has w w.heap.size A l) (hn : n = l.length) (hn3 : n ≤ 3000) (hnc : n ≤ c) (hcm : c ≤ maxLen) (hAc : A = none → c = 0) (hl0 : -9223372036854775808 ≤ less) (hl1 : less ≤ 9223372036854775807) (hT : Tb w) (m : M) (hm : dec l = .ok m) :
    Calls Tryd.prog 4 #[.slice A n c, .int .i64 less] w fun e w' => e = .returned (.bool true) ∧ Below w.heap.size w w' := by
  obtain ⟨xs, hxs, hr, hjl, hdj⟩ := dec_join hm
  have hbi : decide ((3000 : Int) < (n : Int)) = false := decide_eq_false (by omega)
  have HK := Lib.hid (known6 hd w hT)
  have HP := Lib.hid (fun (l : List UInt8) (hm : dec l = .ok m) (w w' : World) (e : Ending) (hp : DPost l w e w') => dPost_ok hm hp)
  have HSM := Lib.hid (dec_small hm)
  obtain ⟨n1, hn1⟩ : ∃ x, m.types.length = x := ⟨_, rfl⟩
  obtain ⟨n2, hn2⟩ : ∃ x, m.imports.length = x := ⟨_, rfl⟩
  obtain ⟨n3, hn3⟩ : ∃ x, m.funcs.length = x := ⟨_, rfl⟩
  obtain ⟨n4, hn4⟩ : ∃ x, m.tables.length = x := ⟨_, rfl⟩
  obtain ⟨n5, hn5⟩ : ∃ x, m.mems.length = x := ⟨_, rfl⟩
  obtain ⟨n6, hn6⟩ : ∃ x, m.globals.length = x := ⟨_, rfl⟩
  obtain ⟨n7, hn7⟩ : ∃ x, m.exports.length = x := ⟨_, rfl⟩
  obtain ⟨n8, hn8⟩ : ∃ x, m.elems.length = x := ⟨_, rfl⟩
  obtain ⟨n9, hn9⟩ : ∃ x, m.codes.length = x := ⟨_, rfl⟩
  obtain ⟨n10, hn10⟩ : ∃ x, m.datas.length = x := ⟨_, rfl⟩
  obtain ⟨hst, hhst⟩ : ∃ x, m.hasStart = x := ⟨_, rfl⟩
  obtain ⟨st, hhs⟩ : ∃ x, m.start = x := ⟨_, rfl⟩
  rw [hn1, hn2, hn3, hn4, hn5, hn6, hn7, hn8, hn9, hn10, hhst, hhs] at HP
  have L1 := Lib.hid hn1
  have L2 := Lib.hid hn2
  have L3 := Lib.hid hn3
  have L4 := Lib.hid hn4
  have L5 := Lib.hid hn5
  have L6 := Lib.hid hn6
  have L7 := Lib.hid hn7
  have L8 := Lib.hid hn8
  have L9 := Lib.hid hn9
  have L10 := Lib.hid hn10
  have HH1 := Lib.hid hhst
  have HH2 := Lib.hid hhs
  clear hhst hhs hn1 hn2 hn3 hn4 hn5 hn6 hn7 hn8 hn9 hn10
  have HD := Lib.hid (fun W (hb : Below w.heap.size w W) => hd A l n c W (hA.on hb) hn (by omega) hnc hcm hAc (hT.on hb))
  have HSP := Lib.hid (fun W (hb : Below w.heap.size w W) => hs.some (hA.on hb) hn (by omega) hnc hcm hAc (hT.on hb) hxs)
  have hql : 2 * xs.length ≤ 3000 := by have h1 := len_sec xs; have h2 : (join xs).length = 8 + (Sec.encAll xs).length := (by simp [join, begin8]; omega); omega
  have hj3 : (join xs).length ≤ 3000 := by omega
  have HJO := Lib.hid (fun W A2 c2 (h2 : HasS W W.heap.size A2 xs) (hc : xs.length ≤ c2) (hc2 : c2 ≤ maxLen) => hj.yes (n := xs.length) (c := c2) h2 rfl hc hc2 (by omega) hr)
  have HD2 := Lib.hid (fun W A2 (c2 : Nat) (h2 : Has W W.heap.size A2 (join xs)) (hc : (join xs).length ≤ c2) (hc2 : c2 ≤ maxLen) (h0 : A2 = none → c2 = 0) (hb : Below w.heap.size w W) => hd A2 (join xs) (join xs).length c2 W h2 rfl (by omega) hc hc2 h0 (hT.on hb))
  have HDJ := Lib.hid hdj
  have HM := Lib.hid hm
  have HXS := Lib.hid hxs
  have HR := Lib.hid hr
  have HN := Lib.hid hn
  have HJ := Lib.hid hj
  have HDD := Lib.hid (fun A l n c W hA hn (hs : n ≤ 3000) hc hcm hA0 (hb : Below w.heap.size w W) => hd A l n c W hA hn (by omega) hc hcm hA0 (hT.on hb))
  obtain ⟨q, hq⟩ : ∃ q, xs.length = q := ⟨_, rfl⟩
  obtain ⟨lj, hlj⟩ : ∃ q, (join xs).length = q := ⟨_, rfl⟩
  rw [hlj] at HJO HD2 hj3 hjl
  rw [hq] at HJO HSP hql
  have HQ := Lib.hid hq
  have HLJ := Lib.hid hlj
  clear hd hs hj hT hA hn hAc hm hxs hr hdj hq hlj hjl
  go_enter Tryd.func4, Tryd.ntmps4
  have tok1 : True := trivial
  go_upto_region 6 with (first | (go_at_call 5; refine HK.out.mono ?_; rintro e w1 ⟨rfl, hb⟩; have HB := Lib.hid hb; clear hb) | (go_at_call 6; refine (HD.out _ HB.out).mono ?_; intro e w2 hp; obtain ⟨a1, x1, a2, x2, a3, x3, a4, x4, a5, x5, a6, x6, a7, x7, a8, x8, a9, x9, a10, x10, rfl, hr, hb⟩ := HP.out _ HM.out _ _ _ hp; have HR1 := Lib.hid hr; have HB2 := Lib.hid (HB.out.trans (hb.mono HB.out.size)); clear hp hr hb HB))
  have HX3 : Hid ((w2.alloc (.cells #[.slice a1 n1 x1, .slice a2 n2 x2, .slice a3 n3 x3, .slice a4 n4 x4, .slice a5 n5 x5, .slice a6 n6 x6, .slice a7 n7 x7, .bool hst, .int .u32 (st : Int), .slice a8 n8 x8, .slice a9 n9 x9, .slice a10 n10 x10] 35)).heap[w2.heap.size]? = some (.cells #[.slice a1 n1 x1, .slice a2 n2 x2, .slice a3 n3 x3, .slice a4 n4 x4, .slice a5 n5 x5, .slice a6 n6 x6, .slice a7 n7 x7, .bool hst, .int .u32 (st : Int), .slice a8 n8 x8, .slice a9 n9 x9, .slice a10 n10 x10] 35)) := Lib.hid (heap_alloc_new w2 _)
  have HR3 := Lib.hid (HR1.out.on ((Below.refl _ w2).alloc (Nat.le_refl _) (.cells #[.slice a1 n1 x1, .slice a2 n2 x2, .slice a3 n3 x3, .slice a4 n4 x4, .slice a5 n5 x5, .slice a6 n6 x6, .slice a7 n7 x7, .bool hst, .int .u32 (st : Int), .slice a8 n8 x8, .slice a9 n9 x9, .slice a10 n10 x10] 35)))
  have HB3 := Lib.hid (HB2.out.alloc HB2.out.size (.cells #[.slice a1 n1 x1, .slice a2 n2 x2, .slice a3 n3 x3, .slice a4 n4 x4, .slice a5 n5 x5, .slice a6 n6 x6, .slice a7 n7 x7, .bool hst, .int .u32 (st : Int), .slice a8 n8 x8, .slice a9 n9 x9, .slice a10 n10 x10] 35))
  generalize w2.alloc (.cells #[.slice a1 n1 x1, .slice a2 n2 x2, .slice a3 n3 x3, .slice a4 n4 x4, .slice a5 n5 x5, .slice a6 n6 x6, .slice a7 n7 x7, .bool hst, .int .u32 (st : Int), .slice a8 n8 x8, .slice a9 n9 x9, .slice a10 n10 x10] 35) = w3 at HX3 HR3 HB3 ⊢
  obtain ⟨X1, hX1⟩ : ∃ X, w2.heap.size = X := ⟨_, rfl⟩
  rw [hX1] at HX3 ⊢
  clear hX1 HR1 HB2 HK HD
  go_upto_region 8 with (first | (go_at_call 10; refine (HSP.out _ HB3.out).mono ?_; rintro e w4 ⟨A4, c4, rfl, hc4, hc4m, hx4, hb⟩; have HX4 := Lib.hid hx4; have HY4 := Lib.hid ((hb.block X1 (Array.getElem?_eq_some_iff.1 HX3.out).1).trans HX3.out); have HR4 := Lib.hid (HR3.out.on hb); have HB4 := Lib.hid (HB3.out.trans (hb.mono HB3.out.size)); clear hb hx4) | (go_at_call 11; refine (HJO.out _ A4 c4 HX4.out hc4 hc4m).mono ?_; rintro e w5 ⟨A5, c5, rfl, hl5, hm5, h05, hh5, hb⟩; have HH5 := Lib.hid hh5; have H05 := Lib.hid h05; have HX5 := Lib.hid (HX4.out.on hb); have HY5 := Lib.hid ((hb.block X1 (Array.getElem?_eq_some_iff.1 HY4.out).1).trans HY4.out); have HR5 := Lib.hid (HR4.out.on hb); have HB5 := Lib.hid (HB4.out.trans (hb.mono HB4.out.size)); clear hb hh5 h05))
  clear HX3 HR3 HB3 HX4 HY4 HR4 HB4 HSP HJO
  go_upto_region 9 with (go_at_call 6; refine (HD2.out _ A5 c5 HH5.out hl5 hm5 H05.out HB5.out).mono ?_; intro e w6 hp; obtain ⟨a1b, x1b, a2b, x2b, a3b, x3b, a4b, x4b, a5b, x5b, a6b, x6b, a7b, x7b, a8b, x8b, a9b, x9b, a10b, x10b, rfl, hr, hb⟩ := HP.out _ HDJ.out _ _ _ hp; have HR6b := Lib.hid hr; have HX6 := Lib.hid (HX5.out.on hb); have HY6 := Lib.hid ((hb.block X1 (Array.getElem?_eq_some_iff.1 HY5.out).1).trans HY5.out); have HR6 := Lib.hid (HR5.out.on hb); have HB6 := Lib.hid (HB5.out.trans (hb.mono HB5.out.size)); clear hp hr hb)
  clear HX5 HY5 HR5 HB5 HD2 HH5 H05
  have hb7 := (Below.refl w6.heap.size w6).alloc (Nat.le_refl _) (.cells #[.slice a1b n1 x1b, .slice a2b n2 x2b, .slice a3b n3 x3b, .slice a4b n4 x4b, .slice a5b n5 x5b, .slice a6b n6 x6b, .slice a7b n7 x7b, .bool hst, .int .u32 (st : Int), .slice a8b n8 x8b, .slice a9b n9 x9b, .slice a10b n10 x10b] 35)
  have HY7 := Lib.hid ((hb7.block X1 (Array.getElem?_eq_some_iff.1 HY6.out).1).trans HY6.out)
  have HY7b : Hid ((w6.alloc (.cells #[.slice a1b n1 x1b, .slice a2b n2 x2b, .slice a3b n3 x3b, .slice a4b n4 x4b, .slice a5b n5 x5b, .slice a6b n6 x6b, .slice a7b n7 x7b, .bool hst, .int .u32 (st : Int), .slice a8b n8 x8b, .slice a9b n9 x9b, .slice a10b n10 x10b] 35)).heap[w6.heap.size]? = some (.cells #[.slice a1b n1 x1b, .slice a2b n2 x2b, .slice a3b n3 x3b, .slice a4b n4 x4b, .slice a5b n5 x5b, .slice a6b n6 x6b, .slice a7b n7 x7b, .bool hst, .int .u32 (st : Int), .slice a8b n8 x8b, .slice a9b n9 x9b, .slice a10b n10 x10b] 35)) := Lib.hid (heap_alloc_new w6 _)
  have HR7 := Lib.hid ((HR6.out.more (S' := fun b => b < w6.heap.size) (fun k hk _ => hk)).on hb7)
  have HR7b := Lib.hid (HR6b.out.on hb7)
  have HX7 := Lib.hid (HX6.out.on hb7)
  have HB7 := Lib.hid (HB6.out.trans (hb7.mono HB6.out.size))
  have HY6o := HY6
  have HB6o := HB6
  clear hb7 HY6 HR6 HR6b HX6 HB6
  generalize w6.alloc (.cells #[.slice a1b n1 x1b, .slice a2b n2 x2b, .slice a3b n3 x3b, .slice a4b n4 x4b, .slice a5b n5 x5b, .slice a6b n6 x6b, .slice a7b n7 x7b, .bool hst, .int .u32 (st : Int), .slice a8b n8 x8b, .slice a9b n9 x9b, .slice a10b n10 x10b] 35) = w7 at HY7 HY7b HR7 HR7b HX7 HB7 ⊢
  obtain ⟨X2, hX2⟩ : ∃ X, w6.heap.size = X := ⟨_, rfl⟩
  rw [hX2] at HY7b HR7 ⊢
  have HX12 : Hid (X1 ≠ X2) := Lib.hid (by have h := (Array.getElem?_eq_some_iff.1 HY6o.out).1; omega)
  have HX2W : Hid (w.heap.size ≤ X2) := Lib.hid (by rw [← hX2]; exact HB6o.out.size)
  clear hX2 HY6o HB6o
  go_cut [59] from 17 to 59 (fun s wx => s = .bool false ∧ Hid (wx.heap[X1]? = some (.cells #[.slice a1 n1 x1, .slice a2 n2 x2, .slice a3 n3 x3, .slice a4 n4 x4, .slice a5 n5 x5, .slice a6 n6 x6, .slice a7 n7 x7, .bool hst, .int .u32 (st : Int), .slice a8 n8 x8, .slice a9 n9 x9, .slice a10 n10 x10] 35)) ∧ Hid (wx.heap[X2]? = some (.cells #[.slice a1b n1 x1b, .slice a2b n2 x2b, .slice a3b n3 x3b, .slice a4b n4 x4b, .slice a5b n5 x5b, .slice a6b n6 x6b, .slice a7b n7 x7b, .bool hst, .int .u32 (st : Int), .slice a8b n8 x8b, .slice a9b n9 x9b, .slice a10b n10 x10b] 35)) ∧ Hid (RepM wx (fun b => b < X2) m (.slice a1 n1 x1) (.slice a2 n2 x2) (.slice a3 n3 x3) (.slice a4 n4 x4) (.slice a5 n5 x5) (.slice a6 n6 x6) (.slice a7 n7 x7) (.slice a8 n8 x8) (.slice a9 n9 x9) (.slice a10 n10 x10)) ∧ Hid (HasS wx wx.heap.size A4 xs) ∧ Hid (Below w.heap.size w wx))
  case first =>
    as_aux_lemma =>
      have HSA := Lib.hid (same6_any (fun b => b < X2) (fun _ => True) m (.agg #[.slice a1 n1 x1, .slice a2 n2 x2, .slice a3 n3 x3, .slice a4 n4 x4, .slice a5 n5 x5, .slice a6 n6 x6, .slice a7 n7 x7, .bool hst, .int .u32 (st : Int), .slice a8 n8 x8, .slice a9 n9 x9, .slice a10 n10 x10]) (.agg #[.slice a1b n1 x1b, .slice a2b n2 x2b, .slice a3b n3 x3b, .slice a4b n4 x4b, .slice a5b n5 x5b, .slice a6b n6 x6b, .slice a7b n7 x7b, .bool hst, .int .u32 (st : Int), .slice a8b n8 x8b, .slice a9b n9 x9b, .slice a10b n10 x10b]) w7 ⟨_, _, _, _, _, _, _, _, _, _, by unfold modCells; rw [HH1.out, HH2.out], HR7.out⟩ ⟨_, _, _, _, _, _, _, _, _, _, by unfold modCells; rw [HH1.out, HH2.out], HR7b.out⟩ HSM.out)
      have p0 : w7.cell? ⟨X1, 0, none⟩ = some (.slice a1 n1 x1) := cell_of_row w7 X1 0 _ _ _ HY7.out
      have p1 : w7.cell? ⟨X1, 1, none⟩ = some (.slice a2 n2 x2) := cell_of_row w7 X1 1 _ _ _ HY7.out
      have p2 : w7.cell? ⟨X1, 2, none⟩ = some (.slice a3 n3 x3) := cell_of_row w7 X1 2 _ _ _ HY7.out
      have p3 : w7.cell? ⟨X1, 3, none⟩ = some (.slice a4 n4 x4) := cell_of_row w7 X1 3 _ _ _ HY7.out
      have p4 : w7.cell? ⟨X1, 4, none⟩ = some (.slice a5 n5 x5) := cell_of_row w7 X1 4 _ _ _ HY7.out
      have p5 : w7.cell? ⟨X1, 5, none⟩ = some (.slice a6 n6 x6) := cell_of_row w7 X1 5 _ _ _ HY7.out
      have p6 : w7.cell? ⟨X1, 6, none⟩ = some (.slice a7 n7 x7) := cell_of_row w7 X1 6 _ _ _ HY7.out
      have p7 : w7.cell? ⟨X1, 7, none⟩ = some (.bool hst) := cell_of_row w7 X1 7 _ _ _ HY7.out
      have p8 : w7.cell? ⟨X1, 8, none⟩ = some (.int .u32 (st : Int)) := cell_of_row w7 X1 8 _ _ _ HY7.out
      have p9 : w7.cell? ⟨X1, 9, none⟩ = some (.slice a8 n8 x8) := cell_of_row w7 X1 9 _ _ _ HY7.out
      have p10 : w7.cell? ⟨X1, 10, none⟩ = some (.slice a9 n9 x9) := cell_of_row w7 X1 10 _ _ _ HY7.out
      have p11 : w7.cell? ⟨X1, 11, none⟩ = some (.slice a10 n10 x10) := cell_of_row w7 X1 11 _ _ _ HY7.out
      have q0 : w7.cell? ⟨X2, 0, none⟩ = some (.slice a1b n1 x1b) := cell_of_row w7 X2 0 _ _ _ HY7b.out
      have q1 : w7.cell? ⟨X2, 1, none⟩ = some (.slice a2b n2 x2b) := cell_of_row w7 X2 1 _ _ _ HY7b.out
      have q2 : w7.cell? ⟨X2, 2, none⟩ = some (.slice a3b n3 x3b) := cell_of_row w7 X2 2 _ _ _ HY7b.out
      have q3 : w7.cell? ⟨X2, 3, none⟩ = some (.slice a4b n4 x4b) := cell_of_row w7 X2 3 _ _ _ HY7b.out
      have q4 : w7.cell? ⟨X2, 4, none⟩ = some (.slice a5b n5 x5b) := cell_of_row w7 X2 4 _ _ _ HY7b.out
      have q5 : w7.cell? ⟨X2, 5, none⟩ = some (.slice a6b n6 x6b) := cell_of_row w7 X2 5 _ _ _ HY7b.out
      have q6 : w7.cell? ⟨X2, 6, none⟩ = some (.slice a7b n7 x7b) := cell_of_row w7 X2 6 _ _ _ HY7b.out
      have q7 : w7.cell? ⟨X2, 7, none⟩ = some (.bool hst) := cell_of_row w7 X2 7 _ _ _ HY7b.out
      have q8 : w7.cell? ⟨X2, 8, none⟩ = some (.int .u32 (st : Int)) := cell_of_row w7 X2 8 _ _ _ HY7b.out
      have q9 : w7.cell? ⟨X2, 9, none⟩ = some (.slice a8b n8 x8b) := cell_of_row w7 X2 9 _ _ _ HY7b.out
      have q10 : w7.cell? ⟨X2, 10, none⟩ = some (.slice a9b n9 x9b) := cell_of_row w7 X2 10 _ _ _ HY7b.out
      have q11 : w7.cell? ⟨X2, 11, none⟩ = some (.slice a10b n10 x10b) := cell_of_row w7 X2 11 _ _ _ HY7b.out
      go_wp2_with (go_at_call 7; refine HSA.out.mono ?_; rintro e w8 ⟨rfl, hb⟩; have HB8 := Lib.hid (HB7.out.trans (hb.mono HB7.out.size)); have HY8 := Lib.hid ((hb.block X1 (Array.getElem?_eq_some_iff.1 HY7.out).1).trans HY7.out); have HY8b := Lib.hid ((hb.block X2 (Array.getElem?_eq_some_iff.1 HY7b.out).1).trans HY7b.out); have HR8 := Lib.hid (HR7.out.on hb); have HX8 := Lib.hid (HX7.out.on hb); clear hb)
      go_meet
      case rel => exact ⟨rfl, HY8, HY8b, HR8, HX8, HB8⟩
  case rest =>
    obtain ⟨rfl, HY8, HY8b, HR8, HX8, HB8⟩ := hcut
    generalize wc = w8 at HY8 HY8b HR8 HX8 HB8 ⊢
    clear HY7 HY7b HR7 HR7b HX7 HB7 w7
    by_cases hneg : less < 0
    · have hni : decide (less < 0) = true := decide_eq_true hneg
      go_wp2_with fail
      go_ret
      exact ⟨rfl, HB8.out⟩
    have hni : decide (less < 0) = false := decide_eq_false hneg
    by_cases hbig : (q : Int) ≤ less
    · have hbg : decide ((q : Int) ≤ less) = true := decide_eq_true hbig
      go_wp2_with fail
      go_ret
      exact ⟨rfl, HB8.out⟩
    obtain ⟨i, rfl⟩ : ∃ i : Nat, less = (i : Int) := ⟨less.toNat, by omega⟩
    have hiq : i < q := by omega
    have hbg : decide ((q : Int) ≤ (i : Int)) = false := decide_eq_false (by omega)
    have hii : (i : Int) < (q : Int) := by omega
    have hbgN : decide (q ≤ i) = false := decide_eq_false (by omega)
    clear hneg hbig hl0 hl1
    obtain ⟨x, hx⟩ : ∃ x, xs[i]? = some x := ⟨_, List.getElem?_eq_getElem (by have := HQ.out; omega)⟩
    obtain ⟨g4, o4, B4, d4, rfl, hg4, hid4, _, _, _, _, k0, _⟩ := HX8.out i x hx
    have HXI := Lib.hid hx
    obtain ⟨xi, hxi⟩ : ∃ z, x.id = z := ⟨_, rfl⟩
    rw [hxi] at k0 hid4
    have HXID := Lib.hid hxi
    clear hx hxi
    by_cases h3 : xi = 3
    · have h3i : ((xi : Int) == 3) = true := by simp; omega
      go_wp2_with fail
      go_ret
      exact ⟨rfl, HB8.out⟩
    have h3i : ((xi : Int) == 3) = false := by simp; omega
    by_cases h10 : xi = 10
    · have h10i : ((xi : Int) == 10) = true := by simp; omega
      go_wp2_with fail
      go_ret
      exact ⟨rfl, HB8.out⟩
    have h10i : ((xi : Int) == 10) = false := by simp; omega
    go_upto_region 14 with fail
    obtain ⟨ys, hys⟩ : ∃ ys, ys = xs.take i ++ xs.drop (i + 1) := ⟨_, rfl⟩
    have hsplitx : xs = xs.take i ++ x :: xs.drop (i + 1) := by
      have h1 := (List.getElem?_eq_some_iff.1 HXI.out)
      obtain ⟨h2, h3⟩ := h1
      rw [← h3, ← List.drop_eq_getElem_cons h2, List.take_append_drop]
    obtain ⟨hr9, hjl9, hd9⟩ := dec_less (a := xs.take i) (b := xs.drop (i + 1)) (s := x) HM.out (by rw [← hsplitx]; exact HXS.out) (by rw [HXID.out]; exact h3) (by rw [HXID.out]; exact h10)
    rw [← hys] at hr9 hjl9 hd9
    rw [HXID.out] at hd9
    have HJL9 : Hid ((join ys).length ≤ 3000) := Lib.hid (by have := HN.out; omega)
    have HR9 := Lib.hid hr9
    have HD9 := Lib.hid hd9
    have hidr : 1 ≤ xi ∧ xi ≤ 11 := by
      have h := rises_gt 0 xs HR.out x (by have h := List.mem_of_getElem? HXI.out; exact h)
      rw [HXID.out] at h
      omega
    have hI1 : (i : Int) + 1 ≤ (q : Int) := by omega
    have hI2 : (i : Int) + 1 ≤ (c4 : Int) := by omega
    have hI3 : (i : Int) ≤ (c4 : Int) := by omega
    have hI4 : (0 : Int) ≤ (i : Int) + 1 := by omega
    have hIw : IntKind.i64.wrap ((i : Int) + 1) = ((i + 1 : Nat) : Int) := by rw [IntWalk.i64_in _ (by omega)]; push_cast; rfl
    have hb0 : Below w8.heap.size w8 (w8.drew.alloc (.cells #[] 69)) := (Below.refl _ _).drew.alloc (Nat.le_refl _) _
    have hX0 := (HX8.out.below hb0)
    have ho0 : OwnB (w8.drew.alloc (.cells #[] 69)) 69 w8.heap.size (.slice (some ⟨w8.heap.size, 0, none⟩) 0 0) 0 [] := ⟨[], rfl, World.ownsRow_lit (base := w8.heap.size) (e := 69) (size := 2) w8.drew #[] 0 (Nat.le_refl _) (by unfold maxLen; omega) rfl, by simp⟩
    have hq3 : q ≤ 3000 := by omega
    obtain ⟨v1, w9, hr1, ho1, hb1⟩ := appendB (P := Tryd.prog) 69 63 undS infoS _ w8.heap.size 0 i c4 g4 o4 _ [] (xs.take i) ho0 (hX0.take i) (by rw [List.length_take, HQ.out]; omega) (by omega) hb0.size
    have hX1 := (hX0.below hb1)
    have hs1 : w8.heap.size ≤ w9.heap.size := Nat.le_trans hb0.size hb1.size
    obtain ⟨o9, ho9, hx9⟩ : ∃ o9, o9 = (if c4 = i + 1 then o4 else o4 + (i + 1) * 2) ∧ HasS w9 w8.heap.size (some ⟨g4, o9, none⟩) (xs.drop (i + 1)) := by
      refine ⟨_, rfl, ?_⟩
      split
      · have : xs.drop (i + 1) = [] := List.eq_nil_of_length_eq_zero (by rw [List.length_drop, HQ.out]; omega)
        rw [this]; exact HasS.nil _ _ _
      · exact hX1.drop (i + 1)
    obtain ⟨v2, w10, hr2, ho2, hb2⟩ := appendB (P := Tryd.prog) 69 63 undS infoS w9 w8.heap.size (0 + i) (q - (i + 1)) (c4 - (i + 1)) g4 o9 v1 ([] ++ xs.take i) (xs.drop (i + 1)) ho1 hx9 (by rw [List.length_drop, HQ.out]) (by omega) hs1
    rw [List.nil_append, ← hys] at ho2
    obtain ⟨A7, c7, hv2, hc7, hc7m, hh7⟩ := (ho2.own (Nat.le_trans hs1 hb2.size)).tell
    have hb10 : Below w8.heap.size w8 w10 := hb0.trans (hb1.trans hb2)
    have HB10 := Lib.hid (HB8.out.trans (hb10.mono HB8.out.size))
    have HY10 := Lib.hid ((hb10.block X1 (Array.getElem?_eq_some_iff.1 HY8.out).1).trans HY8.out)
    have HY10b := Lib.hid ((hb10.block X2 (Array.getElem?_eq_some_iff.1 HY8b.out).1).trans HY8b.out)
    have HR10 := Lib.hid (HR8.out.on hb10)
    have HJ10 := Lib.hid (JoinOk.yes HJ.out (n := ys.length) (c := c7) hh7 rfl hc7 hc7m (by have := HJL9.out; omega) HR9.out)
    subst hv2
    
    have HR1 := Lib.hid hr1
    have HR2 := Lib.hid hr2
    have HO9 := Lib.hid ho9
    have HYS := Lib.hid hys
    clear hr1 hr2 ho0 hX0 ho1 hb1 hX1 hx9 ho2 hb2 hh7 hb10 hb0 hr9 hjl9 hd9 hsplitx hys ho9
    go_cut [9, 10] from 60 to 102 (fun s t wx => ∃ A11 c11, s = .slice A11 (join ys).length c11 ∧ t = .int .i64 0 ∧ (join ys).length ≤ c11 ∧ c11 ≤ maxLen ∧ Hid (A11 = none → c11 = 0) ∧ Hid (Has wx wx.heap.size A11 (join ys)) ∧ Hid (Below w.heap.size w wx) ∧ Hid (wx.heap[X1]? = some (.cells #[.slice a1 n1 x1, .slice a2 n2 x2, .slice a3 n3 x3, .slice a4 n4 x4, .slice a5 n5 x5, .slice a6 n6 x6, .slice a7 n7 x7, .bool hst, .int .u32 (st : Int), .slice a8 n8 x8, .slice a9 n9 x9, .slice a10 n10 x10] 35)) ∧ Hid (wx.heap[X2]? = some (.cells #[.slice a1b n1 x1b, .slice a2b n2 x2b, .slice a3b n3 x3b, .slice a4b n4 x4b, .slice a5b n5 x5b, .slice a6b n6 x6b, .slice a7b n7 x7b, .bool hst, .int .u32 (st : Int), .slice a8b n8 x8b, .slice a9b n9 x9b, .slice a10b n10 x10b] 35)) ∧ Hid (RepM wx (fun b => b < X2) m (.slice a1 n1 x1) (.slice a2 n2 x2) (.slice a3 n3 x3) (.slice a4 n4 x4) (.slice a5 n5 x5) (.slice a6 n6 x6) (.slice a7 n7 x7) (.slice a8 n8 x8) (.slice a9 n9 x9) (.slice a10 n10 x10)))
    case first =>
      as_aux_lemma =>
        by_cases hcc : c4 = i + 1
        · have ho9 : o9 = o4 := by rw [HO9.out, if_pos hcc]
          subst ho9
          obtain rfl : q = i + 1 := by omega
          subst hcc
          have hI5 : (i : Int) ≤ (i : Int) + 1 := by omega
          simp only [Nat.sub_self] at HR2
          refine wp_region_held_drew (S := (fun _ => True)) (by kernel_rfl) (trivial) (fun hHeld => ?_)
          refine drawn_take 1 rfl (by kernel_rfl) (by kernel_rfl) (by kernel_rfl) (fun _ _ _ h => h) (by rfl) (by assumption) (v := ?_) ?_ ?_
          rotate_left
          · (intro wy hSw; (try dsimp only at hSw); go_simp; try with_reducible rfl)
          simp only [Act.put, List.setIfInBounds_toArray, List.set_cons_zero, List.set_cons_succ]
          refine drawn_take 2 rfl (by kernel_rfl) (by kernel_rfl) (by kernel_rfl) (fun _ _ _ h => h) (by rfl) (by assumption) (v := ?_) ?_ ?_
          rotate_left
          · (intro wy hSw; (try dsimp only at hSw); go_simp; try with_reducible rfl)
          simp only [Act.put, List.setIfInBounds_toArray, List.set_cons_zero, List.set_cons_succ]
          refine drawn_take 3 rfl (by kernel_rfl) (by kernel_rfl) (by kernel_rfl) (fun _ _ _ h => h) (by rfl) (by assumption) (v := ?_) ?_ ?_
          rotate_left
          · (intro wy hSw; (try dsimp only at hSw); go_simp; try with_reducible rfl)
          simp only [Act.put, List.setIfInBounds_toArray, List.set_cons_zero, List.set_cons_succ]
          refine drawn_take 5 rfl (by kernel_rfl) (by kernel_rfl) (by kernel_rfl) (fun _ _ _ h => h) (by rfl) (by assumption) (v := ?_) ?_ ?_
          rotate_left
          · (intro wy hSw; (try dsimp only at hSw); go_simp; try with_reducible rfl)
          simp only [Act.put, List.setIfInBounds_toArray, List.set_cons_zero, List.set_cons_succ]
          refine drawn_take 6 rfl (by kernel_rfl) (by kernel_rfl) (by kernel_rfl) (fun _ _ _ h => h) (by rfl) (by assumption) (v := ?_) ?_ ?_
          rotate_left
          · (intro wy hSw; (try dsimp only at hSw); go_simp; try with_reducible rfl)
          simp only [Act.put, List.setIfInBounds_toArray, List.set_cons_zero, List.set_cons_succ]
          refine drawn_take 7 rfl (by kernel_rfl) (by kernel_rfl) (by kernel_rfl) (fun _ _ _ h => h) (by rfl) (by assumption) (v := ?_) ?_ ?_
          rotate_left
          · (intro wy hSw; (try dsimp only at hSw); go_simp; try with_reducible rfl)
          simp only [Act.put, List.setIfInBounds_toArray, List.set_cons_zero, List.set_cons_succ]
          refine drawn_take 8 rfl (by kernel_rfl) (by kernel_rfl) (by kernel_rfl) (fun _ _ _ h => h) (by rfl) (by assumption) (v := ?_) ?_ ?_
          rotate_left
          · (intro wy hSw; (try dsimp only at hSw); go_simp; try with_reducible rfl)
          simp only [Act.put, List.setIfInBounds_toArray, List.set_cons_zero, List.set_cons_succ]
          refine drawn_sole 0 rfl (by kernel_rfl) (fun K hK => ?_)
          go_simp
          skip
          refine hK.out _ _ (trivial) (fun hHeld2 => ?_)
          clear hK K
          clear hHeld
          have hHeld := hHeld2
          clear hHeld2
          refine drawn_sole 4 rfl (by kernel_rfl) (fun K hK => ?_)
          rw [if_pos (by rfl)]
          refine wp_appends2 (.tmp 90) (.tmp 93) 63 rfl _ _ _ w9 rfl rfl HR1.out ?_
          simp only [Act.put, List.setIfInBounds_toArray, List.set_cons_zero, List.set_cons_succ]
          refine hK.out _ _ (trivial) (fun hHeld2 => ?_)
          clear hK K
          clear hHeld
          have hHeld := hHeld2
          clear hHeld2
          refine drawn_sole 9 rfl (by kernel_rfl) (fun K hK => ?_)
          rw [if_pos (by rfl)]
          refine wp_appends2 (.tmp 94) (.tmp 98) 63 rfl _ _ _ w10 rfl rfl HR2.out ?_
          simp only [Act.put, List.setIfInBounds_toArray, List.set_cons_zero, List.set_cons_succ]
          refine hK.out _ _ (trivial) (fun hHeld2 => ?_)
          clear hK K
          clear hHeld
          have hHeld := hHeld2
          clear hHeld2
          refine drawn_sole 10 rfl (by kernel_rfl) (fun K hK => ?_)
          go_simp
          refine HJ10.out.mono ?_
          rintro e w11 ⟨A11, c11, rfl, hl11, hm11, h011, hh11, hb⟩
          have HH11 := Lib.hid hh11
          have H011 := Lib.hid h011
          have HB11 := Lib.hid (HB10.out.trans (hb.mono HB10.out.size))
          have HY11 := Lib.hid ((hb.block X1 (Array.getElem?_eq_some_iff.1 HY10.out).1).trans HY10.out)
          have HY11b := Lib.hid ((hb.block X2 (Array.getElem?_eq_some_iff.1 HY10b.out).1).trans HY10b.out)
          have HR11 := Lib.hid (HR10.out.on hb)
          clear hb hh11 h011
          go_wp2_with fail
          refine hK.out _ _ (trivial) (fun hHeld2 => ?_)
          clear hK K
          clear hHeld
          have hHeld := hHeld2
          clear hHeld2
          refine drawn_take 11 rfl (by kernel_rfl) (by kernel_rfl) (by kernel_rfl) (fun _ _ _ h => h) (by rfl) (by assumption) (v := ?_) ?_ ?_
          rotate_left
          · (intro wy hSw; (try dsimp only at hSw); go_simp; try with_reducible rfl)
          simp only [Act.put, List.setIfInBounds_toArray, List.set_cons_zero, List.set_cons_succ]
          refine drawn_take 12 rfl (by kernel_rfl) (by kernel_rfl) (by kernel_rfl) (fun _ _ _ h => h) (by rfl) (by assumption) (v := ?_) ?_ ?_
          rotate_left
          · (intro wy hSw; (try dsimp only at hSw); go_simp; try with_reducible rfl)
          simp only [Act.put, List.setIfInBounds_toArray, List.set_cons_zero, List.set_cons_succ]
          refine drawn_take 13 rfl (by kernel_rfl) (by kernel_rfl) (by kernel_rfl) (fun _ _ _ h => h) (by rfl) (by assumption) (v := ?_) ?_ ?_
          rotate_left
          · (intro wy hSw; (try dsimp only at hSw); go_simp; try with_reducible rfl)
          simp only [Act.put, List.setIfInBounds_toArray, List.set_cons_zero, List.set_cons_succ]
          refine drawn_take 14 rfl (by kernel_rfl) (by kernel_rfl) (by kernel_rfl) (fun _ _ _ h => h) (by rfl) (by assumption) (v := ?_) ?_ ?_
          rotate_left
          · (intro wy hSw; (try dsimp only at hSw); go_simp; try with_reducible rfl)
          simp only [Act.put, List.setIfInBounds_toArray, List.set_cons_zero, List.set_cons_succ]
          refine drawn_take 15 rfl (by kernel_rfl) (by kernel_rfl) (by kernel_rfl) (fun _ _ _ h => h) (by rfl) (by assumption) (v := ?_) ?_ ?_
          rotate_left
          · (intro wy hSw; (try dsimp only at hSw); go_simp; try with_reducible rfl)
          simp only [Act.put, List.setIfInBounds_toArray, List.set_cons_zero, List.set_cons_succ]
          refine wpAnyH_done (by kernel_rfl) ?_ _
          go_wp2_with fail
          go_meet
          case rel => exact ⟨A11, c11, rfl, rfl, hl11, hm11, H011, HH11, HB11, HY11, HY11b, HR11⟩
        · have hck : ¬ (c4 - (i + 1) = 0) := by omega
          have ho9 : o9 = o4 + (i + 1) * 2 := by rw [HO9.out, if_neg hcc]
          subst ho9
          refine wp_region_held_drew (S := (fun _ => True)) (by kernel_rfl) (trivial) (fun hHeld => ?_)
          refine drawn_take 1 rfl (by kernel_rfl) (by kernel_rfl) (by kernel_rfl) (fun _ _ _ h => h) (by rfl) (by assumption) (v := ?_) ?_ ?_
          rotate_left
          · (intro wy hSw; (try dsimp only at hSw); go_simp; try with_reducible rfl)
          simp only [Act.put, List.setIfInBounds_toArray, List.set_cons_zero, List.set_cons_succ]
          refine drawn_take 2 rfl (by kernel_rfl) (by kernel_rfl) (by kernel_rfl) (fun _ _ _ h => h) (by rfl) (by assumption) (v := ?_) ?_ ?_
          rotate_left
          · (intro wy hSw; (try dsimp only at hSw); go_simp; try with_reducible rfl)
          simp only [Act.put, List.setIfInBounds_toArray, List.set_cons_zero, List.set_cons_succ]
          refine drawn_take 3 rfl (by kernel_rfl) (by kernel_rfl) (by kernel_rfl) (fun _ _ _ h => h) (by rfl) (by assumption) (v := ?_) ?_ ?_
          rotate_left
          · (intro wy hSw; (try dsimp only at hSw); go_simp; try with_reducible rfl)
          simp only [Act.put, List.setIfInBounds_toArray, List.set_cons_zero, List.set_cons_succ]
          refine drawn_take 5 rfl (by kernel_rfl) (by kernel_rfl) (by kernel_rfl) (fun _ _ _ h => h) (by rfl) (by assumption) (v := ?_) ?_ ?_
          rotate_left
          · (intro wy hSw; (try dsimp only at hSw); go_simp; try with_reducible rfl)
          simp only [Act.put, List.setIfInBounds_toArray, List.set_cons_zero, List.set_cons_succ]
          refine drawn_take 6 rfl (by kernel_rfl) (by kernel_rfl) (by kernel_rfl) (fun _ _ _ h => h) (by rfl) (by assumption) (v := ?_) ?_ ?_
          rotate_left
          · (intro wy hSw; (try dsimp only at hSw); go_simp; try with_reducible rfl)
          simp only [Act.put, List.setIfInBounds_toArray, List.set_cons_zero, List.set_cons_succ]
          refine drawn_take 7 rfl (by kernel_rfl) (by kernel_rfl) (by kernel_rfl) (fun _ _ _ h => h) (by rfl) (by assumption) (v := ?_) ?_ ?_
          rotate_left
          · (intro wy hSw; (try dsimp only at hSw); go_simp; try with_reducible rfl)
          simp only [Act.put, List.setIfInBounds_toArray, List.set_cons_zero, List.set_cons_succ]
          refine drawn_take 8 rfl (by kernel_rfl) (by kernel_rfl) (by kernel_rfl) (fun _ _ _ h => h) (by rfl) (by assumption) (v := ?_) ?_ ?_
          rotate_left
          · (intro wy hSw; (try dsimp only at hSw); go_simp; try with_reducible rfl)
          simp only [Act.put, List.setIfInBounds_toArray, List.set_cons_zero, List.set_cons_succ]
          refine drawn_sole 0 rfl (by kernel_rfl) (fun K hK => ?_)
          go_simp
          skip
          refine hK.out _ _ (trivial) (fun hHeld2 => ?_)
          clear hK K
          clear hHeld
          have hHeld := hHeld2
          clear hHeld2
          refine drawn_sole 4 rfl (by kernel_rfl) (fun K hK => ?_)
          rw [if_pos (by rfl)]
          refine wp_appends2 (.tmp 90) (.tmp 93) 63 rfl _ _ _ w9 rfl rfl HR1.out ?_
          simp only [Act.put, List.setIfInBounds_toArray, List.set_cons_zero, List.set_cons_succ]
          refine hK.out _ _ (trivial) (fun hHeld2 => ?_)
          clear hK K
          clear hHeld
          have hHeld := hHeld2
          clear hHeld2
          refine drawn_sole 9 rfl (by kernel_rfl) (fun K hK => ?_)
          rw [if_pos (by rfl)]
          refine wp_appends2 (.tmp 94) (.tmp 98) 63 rfl _ _ _ w10 rfl rfl HR2.out ?_
          simp only [Act.put, List.setIfInBounds_toArray, List.set_cons_zero, List.set_cons_succ]
          refine hK.out _ _ (trivial) (fun hHeld2 => ?_)
          clear hK K
          clear hHeld
          have hHeld := hHeld2
          clear hHeld2
          refine drawn_sole 10 rfl (by kernel_rfl) (fun K hK => ?_)
          go_simp
          refine HJ10.out.mono ?_
          rintro e w11 ⟨A11, c11, rfl, hl11, hm11, h011, hh11, hb⟩
          have HH11 := Lib.hid hh11
          have H011 := Lib.hid h011
          have HB11 := Lib.hid (HB10.out.trans (hb.mono HB10.out.size))
          have HY11 := Lib.hid ((hb.block X1 (Array.getElem?_eq_some_iff.1 HY10.out).1).trans HY10.out)
          have HY11b := Lib.hid ((hb.block X2 (Array.getElem?_eq_some_iff.1 HY10b.out).1).trans HY10b.out)
          have HR11 := Lib.hid (HR10.out.on hb)
          clear hb hh11 h011
          go_wp2_with fail
          refine hK.out _ _ (trivial) (fun hHeld2 => ?_)
          clear hK K
          clear hHeld
          have hHeld := hHeld2
          clear hHeld2
          refine drawn_take 11 rfl (by kernel_rfl) (by kernel_rfl) (by kernel_rfl) (fun _ _ _ h => h) (by rfl) (by assumption) (v := ?_) ?_ ?_
          rotate_left
          · (intro wy hSw; (try dsimp only at hSw); go_simp; try with_reducible rfl)
          simp only [Act.put, List.setIfInBounds_toArray, List.set_cons_zero, List.set_cons_succ]
          refine drawn_take 12 rfl (by kernel_rfl) (by kernel_rfl) (by kernel_rfl) (fun _ _ _ h => h) (by rfl) (by assumption) (v := ?_) ?_ ?_
          rotate_left
          · (intro wy hSw; (try dsimp only at hSw); go_simp; try with_reducible rfl)
          simp only [Act.put, List.setIfInBounds_toArray, List.set_cons_zero, List.set_cons_succ]
          refine drawn_take 13 rfl (by kernel_rfl) (by kernel_rfl) (by kernel_rfl) (fun _ _ _ h => h) (by rfl) (by assumption) (v := ?_) ?_ ?_
          rotate_left
          · (intro wy hSw; (try dsimp only at hSw); go_simp; try with_reducible rfl)
          simp only [Act.put, List.setIfInBounds_toArray, List.set_cons_zero, List.set_cons_succ]
          refine drawn_take 14 rfl (by kernel_rfl) (by kernel_rfl) (by kernel_rfl) (fun _ _ _ h => h) (by rfl) (by assumption) (v := ?_) ?_ ?_
          rotate_left
          · (intro wy hSw; (try dsimp only at hSw); go_simp; try with_reducible rfl)
          simp only [Act.put, List.setIfInBounds_toArray, List.set_cons_zero, List.set_cons_succ]
          refine drawn_take 15 rfl (by kernel_rfl) (by kernel_rfl) (by kernel_rfl) (fun _ _ _ h => h) (by rfl) (by assumption) (v := ?_) ?_ ?_
          rotate_left
          · (intro wy hSw; (try dsimp only at hSw); go_simp; try with_reducible rfl)
          simp only [Act.put, List.setIfInBounds_toArray, List.set_cons_zero, List.set_cons_succ]
          refine wpAnyH_done (by kernel_rfl) ?_ _
          go_wp2_with fail
          go_meet
          case rel => exact ⟨A11, c11, rfl, rfl, hl11, hm11, H011, HH11, HB11, HY11, HY11b, HR11⟩
    case rest =>
      obtain ⟨A11, c11, rfl, rfl, hl11, hm11, H011, HH11, HB11, HY11, HY11b, HR11⟩ := hcut
      generalize wc = w11 at HB11 HY11 HY11b HR11 HH11 ⊢
      clear HB8 HY8 HY8b HR8 HX8 HB10 HY10 HY10b HR10 HJ10 HR1 HR2 HO9 HYS HJ HR9
      have HP9 := Lib.hid (fun (w w' : World) (e : Ending) (hp : DPost (join ys) w e w') => dPost_own HD9.out hp)
      obtain ⟨k1, hk1⟩ : ∃ z, (m.less xi).types.length = z := ⟨_, rfl⟩
      obtain ⟨k2, hk2⟩ : ∃ z, (m.less xi).imports.length = z := ⟨_, rfl⟩
      obtain ⟨k3, hk3⟩ : ∃ z, (m.less xi).funcs.length = z := ⟨_, rfl⟩
      obtain ⟨k4, hk4⟩ : ∃ z, (m.less xi).tables.length = z := ⟨_, rfl⟩
      obtain ⟨k5, hk5⟩ : ∃ z, (m.less xi).mems.length = z := ⟨_, rfl⟩
      obtain ⟨k6, hk6⟩ : ∃ z, (m.less xi).globals.length = z := ⟨_, rfl⟩
      obtain ⟨k7, hk7⟩ : ∃ z, (m.less xi).exports.length = z := ⟨_, rfl⟩
      obtain ⟨k8, hk8⟩ : ∃ z, (m.less xi).elems.length = z := ⟨_, rfl⟩
      obtain ⟨k9, hk9⟩ : ∃ z, (m.less xi).codes.length = z := ⟨_, rfl⟩
      obtain ⟨k10, hk10⟩ : ∃ z, (m.less xi).datas.length = z := ⟨_, rfl⟩
      obtain ⟨h9, hh9⟩ : ∃ z, (m.less xi).hasStart = z := ⟨_, rfl⟩
      obtain ⟨s9, hs9⟩ : ∃ z, (m.less xi).start = z := ⟨_, rfl⟩
      rw [hk1, hk2, hk3, hk4, hk5, hk6, hk7, hk8, hk9, hk10, hh9, hs9] at HP9
      have K1 := Lib.hid hk1
      have K2 := Lib.hid hk2
      have K3 := Lib.hid hk3
      have K4 := Lib.hid hk4
      have K5 := Lib.hid hk5
      have K6 := Lib.hid hk6
      have K7 := Lib.hid hk7
      have K8 := Lib.hid hk8
      have K9 := Lib.hid hk9
      have K10 := Lib.hid hk10
      have KH := Lib.hid hh9
      have KS := Lib.hid hs9
      clear hh9 hs9 hk1 hk2 hk3 hk4 hk5 hk6 hk7 hk8 hk9 hk10
      go_upto_region 16 with (go_at_call 6; refine (HDD.out A11 (join ys) _ c11 _ HH11.out rfl HJL9.out hl11 hm11 H011.out HB11.out).mono ?_; intro e w12 hp; obtain ⟨a1d, x1d, a2d, x2d, a3d, x3d, a4d, x4d, a5d, x5d, a6d, x6d, a7d, x7d, a8d, x8d, a9d, x9d, a10d, x10d, rfl, hr, hb⟩ := HP9.out _ _ _ hp; have HR12 := Lib.hid (hr.more (S' := fun b => b ≠ X2) (fun k _ hk => by have h1 := (Array.getElem?_eq_some_iff.1 HY11b.out).1; omega)); have HY12 := Lib.hid ((hb.block X1 (Array.getElem?_eq_some_iff.1 HY11.out).1).trans HY11.out); have HY12b := Lib.hid ((hb.block X2 (Array.getElem?_eq_some_iff.1 HY11b.out).1).trans HY11b.out); have HM12 := Lib.hid (HR11.out.on hb); have HB12 := Lib.hid (HB11.out.trans (hb.mono HB11.out.size)); clear hp hr hb; obtain ⟨z0, z1, z2, z3, z4, z5, z6, z7, z8, z9, z10, z11⟩ := cells12 HY12b.out; obtain ⟨f0, f1, f2, f3, f4, f5, f6, f7, f8, f9, f10, f11⟩ := frozen12 HY12b.out)
      have HC13 : Hid (((((((((((((w12.setCell ⟨X2, 0, none⟩ (.slice a1d k1 x1d)).setCell ⟨X2, 1, none⟩ (.slice a2d k2 x2d)).setCell ⟨X2, 2, none⟩ (.slice a3d k3 x3d)).setCell ⟨X2, 3, none⟩ (.slice a4d k4 x4d)).setCell ⟨X2, 4, none⟩ (.slice a5d k5 x5d)).setCell ⟨X2, 5, none⟩ (.slice a6d k6 x6d)).setCell ⟨X2, 6, none⟩ (.slice a7d k7 x7d)).setCell ⟨X2, 7, none⟩ (.bool h9)).setCell ⟨X2, 8, none⟩ (.int .u32 (s9 : Int))).setCell ⟨X2, 9, none⟩ (.slice a8d k8 x8d)).setCell ⟨X2, 10, none⟩ (.slice a9d k9 x9d)).setCell ⟨X2, 11, none⟩ (.slice a10d k10 x10d)).heap[X2]? = some (.cells #[.slice a1d k1 x1d, .slice a2d k2 x2d, .slice a3d k3 x3d, .slice a4d k4 x4d, .slice a5d k5 x5d, .slice a6d k6 x6d, .slice a7d k7 x7d, .bool h9, .int .u32 (s9 : Int), .slice a8d k8 x8d, .slice a9d k9 x9d, .slice a10d k10 x10d] 35 (0, 0))) := Lib.hid (set12 HY12b.out)
      have hmd := mod12 w12 X2 (.slice a1d k1 x1d) (.slice a2d k2 x2d) (.slice a3d k3 x3d) (.slice a4d k4 x4d) (.slice a5d k5 x5d) (.slice a6d k6 x6d) (.slice a7d k7 x7d) (.bool h9) (.int .u32 (s9 : Int)) (.slice a8d k8 x8d) (.slice a9d k9 x9d) (.slice a10d k10 x10d)
      have HY13 := Lib.hid (hmd.heap HY12.out (fun e => HX12.out e))
      have HR13 := Lib.hid (HR12.out.mod hmd (fun _ _ h e => h e))
      have HM13 := Lib.hid (HM12.out.mod hmd (fun _ _ h e => by omega))
      have HB13 := Lib.hid (HB12.out.trans (hmd.below HB12.out.size (fun b hb e => by have := HX2W.out; omega)))
      clear hmd HY12 HY12b HR12 HM12 HB12 z0 f0 z1 f1 z2 f2 z3 f3 z4 f4 z5 f5 z6 f6 z7 f7 z8 f8 z9 f9 z10 f10 z11 f11
      generalize ((((((((((((w12.setCell ⟨X2, 0, none⟩ (.slice a1d k1 x1d)).setCell ⟨X2, 1, none⟩ (.slice a2d k2 x2d)).setCell ⟨X2, 2, none⟩ (.slice a3d k3 x3d)).setCell ⟨X2, 3, none⟩ (.slice a4d k4 x4d)).setCell ⟨X2, 4, none⟩ (.slice a5d k5 x5d)).setCell ⟨X2, 5, none⟩ (.slice a6d k6 x6d)).setCell ⟨X2, 6, none⟩ (.slice a7d k7 x7d)).setCell ⟨X2, 7, none⟩ (.bool h9)).setCell ⟨X2, 8, none⟩ (.int .u32 (s9 : Int))).setCell ⟨X2, 9, none⟩ (.slice a8d k8 x8d)).setCell ⟨X2, 10, none⟩ (.slice a9d k9 x9d)).setCell ⟨X2, 11, none⟩ (.slice a10d k10 x10d)) = w13 at HC13 HY13 HR13 HM13 HB13 ⊢
      have p0 := cell_of_row w13 X1 0 _ _ _ HY13.out
      have p1 := cell_of_row w13 X1 1 _ _ _ HY13.out
      have p2 := cell_of_row w13 X1 2 _ _ _ HY13.out
      have p3 := cell_of_row w13 X1 3 _ _ _ HY13.out
      have p4 := cell_of_row w13 X1 4 _ _ _ HY13.out
      have p5 := cell_of_row w13 X1 5 _ _ _ HY13.out
      have p6 := cell_of_row w13 X1 6 _ _ _ HY13.out
      have p7 := cell_of_row w13 X1 7 _ _ _ HY13.out
      have p8 := cell_of_row w13 X1 8 _ _ _ HY13.out
      have p9 := cell_of_row w13 X1 9 _ _ _ HY13.out
      have p10 := cell_of_row w13 X1 10 _ _ _ HY13.out
      have p11 := cell_of_row w13 X1 11 _ _ _ HY13.out
      simp at p0 p1 p2 p3 p4 p5 p6 p7 p8 p9 p10 p11
      have HSM9 := Lib.hid (dec_small HD9.out)
      clear HY13
      have hxc : xi = 1 ∨ xi = 2 ∨ xi = 4 ∨ xi = 5 ∨ xi = 6 ∨ xi = 7 ∨ xi = 8 ∨ xi = 9 ∨ xi = 11 := by omega
      rcases hxc with rfl | rfl | rfl | rfl | rfl | rfl | rfl | rfl | rfl
      · as_aux_lemma =>
          have hbw : Below w13.heap.size w13 (w13.alloc (.cells #[.slice none 0 0, .slice a2 n2 x2, .slice a3 n3 x3, .slice a4 n4 x4, .slice a5 n5 x5, .slice a6 n6 x6, .slice a7 n7 x7, .bool hst, .int .u32 (st : Int), .slice a8 n8 x8, .slice a9 n9 x9, .slice a10 n10 x10] 35)) := (Below.refl _ _).alloc (Nat.le_refl _) _
          have hcw := (hbw.block X2 (Array.getElem?_eq_some_iff.1 HC13.out).1).trans HC13.out
          have q0 := cell_of_row _ X2 0 _ _ _ hcw
          have q1 := cell_of_row _ X2 1 _ _ _ hcw
          have q2 := cell_of_row _ X2 2 _ _ _ hcw
          have q3 := cell_of_row _ X2 3 _ _ _ hcw
          have q4 := cell_of_row _ X2 4 _ _ _ hcw
          have q5 := cell_of_row _ X2 5 _ _ _ hcw
          have q6 := cell_of_row _ X2 6 _ _ _ hcw
          have q7 := cell_of_row _ X2 7 _ _ _ hcw
          have q8 := cell_of_row _ X2 8 _ _ _ hcw
          have q9 := cell_of_row _ X2 9 _ _ _ hcw
          have q10 := cell_of_row _ X2 10 _ _ _ hcw
          have q11 := cell_of_row _ X2 11 _ _ _ hcw
          simp at q0 q1 q2 q3 q4 q5 q6 q7 q8 q9 q10 q11
          clear hcw
          have HRw := HR13.out.on hbw
          have HMw := HM13.out.on hbw
          have HSA9 := Lib.hid (same6_any (fun b => b ≠ X2) (fun b => b < X2) (m.less 1) (.agg #[.slice a1d k1 x1d, .slice a2d k2 x2d, .slice a3d k3 x3d, .slice a4d k4 x4d, .slice a5d k5 x5d, .slice a6d k6 x6d, .slice a7d k7 x7d, .bool h9, .int .u32 (s9 : Int), .slice a8d k8 x8d, .slice a9d k9 x9d, .slice a10d k10 x10d]) (.agg #[.slice none 0 0, .slice a2 n2 x2, .slice a3 n3 x3, .slice a4 n4 x4, .slice a5 n5 x5, .slice a6 n6 x6, .slice a7 n7 x7, .bool hst, .int .u32 (st : Int), .slice a8 n8 x8, .slice a9 n9 x9, .slice a10 n10 x10]) (w13.alloc (.cells #[.slice none 0 0, .slice a2 n2 x2, .slice a3 n3 x3, .slice a4 n4 x4, .slice a5 n5 x5, .slice a6 n6 x6, .slice a7 n7 x7, .bool hst, .int .u32 (st : Int), .slice a8 n8 x8, .slice a9 n9 x9, .slice a10 n10 x10] 35)) ⟨_, _, _, _, _, _, _, _, _, _, by unfold modCells; rw [KH.out, KS.out], HRw⟩ ⟨_, _, _, _, _, _, _, _, _, _, (by unfold modCells; rw [show (m.less 1).hasStart = hst from HH1.out, show (m.less 1).start = st from HH2.out]), ⟨SliceV.nil _ _, HMw.imports, HMw.funcs, HMw.tables, HMw.mems, HMw.globals, HMw.exports, HMw.start, HMw.elems, HMw.codes, HMw.datas⟩⟩ HSM9.out)
          have HBw := Lib.hid (HB13.out.trans (hbw.mono HB13.out.size))
          clear hbw HRw HMw
          go_wp2_with (go_at_call 7; refine HSA9.out.mono ?_; rintro e w14 ⟨rfl, hb⟩; have HB14 := Lib.hid (HBw.out.trans (hb.mono HBw.out.size)); clear hb)
          go_ret
          exact ⟨rfl, HB14.out⟩
      · as_aux_lemma =>
          have hbw : Below w13.heap.size w13 (w13.alloc (.cells #[.slice a1 n1 x1, .slice none 0 0, .slice a3 n3 x3, .slice a4 n4 x4, .slice a5 n5 x5, .slice a6 n6 x6, .slice a7 n7 x7, .bool hst, .int .u32 (st : Int), .slice a8 n8 x8, .slice a9 n9 x9, .slice a10 n10 x10] 35)) := (Below.refl _ _).alloc (Nat.le_refl _) _
          have hcw := (hbw.block X2 (Array.getElem?_eq_some_iff.1 HC13.out).1).trans HC13.out
          have q0 := cell_of_row _ X2 0 _ _ _ hcw
          have q1 := cell_of_row _ X2 1 _ _ _ hcw
          have q2 := cell_of_row _ X2 2 _ _ _ hcw
          have q3 := cell_of_row _ X2 3 _ _ _ hcw
          have q4 := cell_of_row _ X2 4 _ _ _ hcw
          have q5 := cell_of_row _ X2 5 _ _ _ hcw
          have q6 := cell_of_row _ X2 6 _ _ _ hcw
          have q7 := cell_of_row _ X2 7 _ _ _ hcw
          have q8 := cell_of_row _ X2 8 _ _ _ hcw
          have q9 := cell_of_row _ X2 9 _ _ _ hcw
          have q10 := cell_of_row _ X2 10 _ _ _ hcw
          have q11 := cell_of_row _ X2 11 _ _ _ hcw
          simp at q0 q1 q2 q3 q4 q5 q6 q7 q8 q9 q10 q11
          clear hcw
          have HRw := HR13.out.on hbw
          have HMw := HM13.out.on hbw
          have HSA9 := Lib.hid (same6_any (fun b => b ≠ X2) (fun b => b < X2) (m.less 2) (.agg #[.slice a1d k1 x1d, .slice a2d k2 x2d, .slice a3d k3 x3d, .slice a4d k4 x4d, .slice a5d k5 x5d, .slice a6d k6 x6d, .slice a7d k7 x7d, .bool h9, .int .u32 (s9 : Int), .slice a8d k8 x8d, .slice a9d k9 x9d, .slice a10d k10 x10d]) (.agg #[.slice a1 n1 x1, .slice none 0 0, .slice a3 n3 x3, .slice a4 n4 x4, .slice a5 n5 x5, .slice a6 n6 x6, .slice a7 n7 x7, .bool hst, .int .u32 (st : Int), .slice a8 n8 x8, .slice a9 n9 x9, .slice a10 n10 x10]) (w13.alloc (.cells #[.slice a1 n1 x1, .slice none 0 0, .slice a3 n3 x3, .slice a4 n4 x4, .slice a5 n5 x5, .slice a6 n6 x6, .slice a7 n7 x7, .bool hst, .int .u32 (st : Int), .slice a8 n8 x8, .slice a9 n9 x9, .slice a10 n10 x10] 35)) ⟨_, _, _, _, _, _, _, _, _, _, by unfold modCells; rw [KH.out, KS.out], HRw⟩ ⟨_, _, _, _, _, _, _, _, _, _, (by unfold modCells; rw [show (m.less 2).hasStart = hst from HH1.out, show (m.less 2).start = st from HH2.out]), ⟨HMw.types, SliceV.nil _ _, HMw.funcs, HMw.tables, HMw.mems, HMw.globals, HMw.exports, HMw.start, HMw.elems, HMw.codes, HMw.datas⟩⟩ HSM9.out)
          have HBw := Lib.hid (HB13.out.trans (hbw.mono HB13.out.size))
          clear hbw HRw HMw
          go_wp2_with (go_at_call 7; refine HSA9.out.mono ?_; rintro e w14 ⟨rfl, hb⟩; have HB14 := Lib.hid (HBw.out.trans (hb.mono HBw.out.size)); clear hb)
          go_ret
          exact ⟨rfl, HB14.out⟩
      · as_aux_lemma =>
          have hbw : Below w13.heap.size w13 (w13.alloc (.cells #[.slice a1 n1 x1, .slice a2 n2 x2, .slice a3 n3 x3, .slice none 0 0, .slice a5 n5 x5, .slice a6 n6 x6, .slice a7 n7 x7, .bool hst, .int .u32 (st : Int), .slice a8 n8 x8, .slice a9 n9 x9, .slice a10 n10 x10] 35)) := (Below.refl _ _).alloc (Nat.le_refl _) _
          have hcw := (hbw.block X2 (Array.getElem?_eq_some_iff.1 HC13.out).1).trans HC13.out
          have q0 := cell_of_row _ X2 0 _ _ _ hcw
          have q1 := cell_of_row _ X2 1 _ _ _ hcw
          have q2 := cell_of_row _ X2 2 _ _ _ hcw
          have q3 := cell_of_row _ X2 3 _ _ _ hcw
          have q4 := cell_of_row _ X2 4 _ _ _ hcw
          have q5 := cell_of_row _ X2 5 _ _ _ hcw
          have q6 := cell_of_row _ X2 6 _ _ _ hcw
          have q7 := cell_of_row _ X2 7 _ _ _ hcw
          have q8 := cell_of_row _ X2 8 _ _ _ hcw
          have q9 := cell_of_row _ X2 9 _ _ _ hcw
          have q10 := cell_of_row _ X2 10 _ _ _ hcw
          have q11 := cell_of_row _ X2 11 _ _ _ hcw
          simp at q0 q1 q2 q3 q4 q5 q6 q7 q8 q9 q10 q11
          clear hcw
          have HRw := HR13.out.on hbw
          have HMw := HM13.out.on hbw
          have HSA9 := Lib.hid (same6_any (fun b => b ≠ X2) (fun b => b < X2) (m.less 4) (.agg #[.slice a1d k1 x1d, .slice a2d k2 x2d, .slice a3d k3 x3d, .slice a4d k4 x4d, .slice a5d k5 x5d, .slice a6d k6 x6d, .slice a7d k7 x7d, .bool h9, .int .u32 (s9 : Int), .slice a8d k8 x8d, .slice a9d k9 x9d, .slice a10d k10 x10d]) (.agg #[.slice a1 n1 x1, .slice a2 n2 x2, .slice a3 n3 x3, .slice none 0 0, .slice a5 n5 x5, .slice a6 n6 x6, .slice a7 n7 x7, .bool hst, .int .u32 (st : Int), .slice a8 n8 x8, .slice a9 n9 x9, .slice a10 n10 x10]) (w13.alloc (.cells #[.slice a1 n1 x1, .slice a2 n2 x2, .slice a3 n3 x3, .slice none 0 0, .slice a5 n5 x5, .slice a6 n6 x6, .slice a7 n7 x7, .bool hst, .int .u32 (st : Int), .slice a8 n8 x8, .slice a9 n9 x9, .slice a10 n10 x10] 35)) ⟨_, _, _, _, _, _, _, _, _, _, by unfold modCells; rw [KH.out, KS.out], HRw⟩ ⟨_, _, _, _, _, _, _, _, _, _, (by unfold modCells; rw [show (m.less 4).hasStart = hst from HH1.out, show (m.less 4).start = st from HH2.out]), ⟨HMw.types, HMw.imports, HMw.funcs, SliceV.nil _ _, HMw.mems, HMw.globals, HMw.exports, HMw.start, HMw.elems, HMw.codes, HMw.datas⟩⟩ HSM9.out)
          have HBw := Lib.hid (HB13.out.trans (hbw.mono HB13.out.size))
          clear hbw HRw HMw
          go_wp2_with (go_at_call 7; refine HSA9.out.mono ?_; rintro e w14 ⟨rfl, hb⟩; have HB14 := Lib.hid (HBw.out.trans (hb.mono HBw.out.size)); clear hb)
          go_ret
          exact ⟨rfl, HB14.out⟩
      · as_aux_lemma =>
          have hbw : Below w13.heap.size w13 (w13.alloc (.cells #[.slice a1 n1 x1, .slice a2 n2 x2, .slice a3 n3 x3, .slice a4 n4 x4, .slice none 0 0, .slice a6 n6 x6, .slice a7 n7 x7, .bool hst, .int .u32 (st : Int), .slice a8 n8 x8, .slice a9 n9 x9, .slice a10 n10 x10] 35)) := (Below.refl _ _).alloc (Nat.le_refl _) _
          have hcw := (hbw.block X2 (Array.getElem?_eq_some_iff.1 HC13.out).1).trans HC13.out
          have q0 := cell_of_row _ X2 0 _ _ _ hcw
          have q1 := cell_of_row _ X2 1 _ _ _ hcw
          have q2 := cell_of_row _ X2 2 _ _ _ hcw
          have q3 := cell_of_row _ X2 3 _ _ _ hcw
          have q4 := cell_of_row _ X2 4 _ _ _ hcw
          have q5 := cell_of_row _ X2 5 _ _ _ hcw
          have q6 := cell_of_row _ X2 6 _ _ _ hcw
          have q7 := cell_of_row _ X2 7 _ _ _ hcw
          have q8 := cell_of_row _ X2 8 _ _ _ hcw
          have q9 := cell_of_row _ X2 9 _ _ _ hcw
          have q10 := cell_of_row _ X2 10 _ _ _ hcw
          have q11 := cell_of_row _ X2 11 _ _ _ hcw
          simp at q0 q1 q2 q3 q4 q5 q6 q7 q8 q9 q10 q11
          clear hcw
          have HRw := HR13.out.on hbw
          have HMw := HM13.out.on hbw
          have HSA9 := Lib.hid (same6_any (fun b => b ≠ X2) (fun b => b < X2) (m.less 5) (.agg #[.slice a1d k1 x1d, .slice a2d k2 x2d, .slice a3d k3 x3d, .slice a4d k4 x4d, .slice a5d k5 x5d, .slice a6d k6 x6d, .slice a7d k7 x7d, .bool h9, .int .u32 (s9 : Int), .slice a8d k8 x8d, .slice a9d k9 x9d, .slice a10d k10 x10d]) (.agg #[.slice a1 n1 x1, .slice a2 n2 x2, .slice a3 n3 x3, .slice a4 n4 x4, .slice none 0 0, .slice a6 n6 x6, .slice a7 n7 x7, .bool hst, .int .u32 (st : Int), .slice a8 n8 x8, .slice a9 n9 x9, .slice a10 n10 x10]) (w13.alloc (.cells #[.slice a1 n1 x1, .slice a2 n2 x2, .slice a3 n3 x3, .slice a4 n4 x4, .slice none 0 0, .slice a6 n6 x6, .slice a7 n7 x7, .bool hst, .int .u32 (st : Int), .slice a8 n8 x8, .slice a9 n9 x9, .slice a10 n10 x10] 35)) ⟨_, _, _, _, _, _, _, _, _, _, by unfold modCells; rw [KH.out, KS.out], HRw⟩ ⟨_, _, _, _, _, _, _, _, _, _, (by unfold modCells; rw [show (m.less 5).hasStart = hst from HH1.out, show (m.less 5).start = st from HH2.out]), ⟨HMw.types, HMw.imports, HMw.funcs, HMw.tables, SliceV.nil _ _, HMw.globals, HMw.exports, HMw.start, HMw.elems, HMw.codes, HMw.datas⟩⟩ HSM9.out)
          have HBw := Lib.hid (HB13.out.trans (hbw.mono HB13.out.size))
          clear hbw HRw HMw
          go_wp2_with (go_at_call 7; refine HSA9.out.mono ?_; rintro e w14 ⟨rfl, hb⟩; have HB14 := Lib.hid (HBw.out.trans (hb.mono HBw.out.size)); clear hb)
          go_ret
          exact ⟨rfl, HB14.out⟩
      · as_aux_lemma =>
          have hbw : Below w13.heap.size w13 (w13.alloc (.cells #[.slice a1 n1 x1, .slice a2 n2 x2, .slice a3 n3 x3, .slice a4 n4 x4, .slice a5 n5 x5, .slice none 0 0, .slice a7 n7 x7, .bool hst, .int .u32 (st : Int), .slice a8 n8 x8, .slice a9 n9 x9, .slice a10 n10 x10] 35)) := (Below.refl _ _).alloc (Nat.le_refl _) _
          have hcw := (hbw.block X2 (Array.getElem?_eq_some_iff.1 HC13.out).1).trans HC13.out
          have q0 := cell_of_row _ X2 0 _ _ _ hcw
          have q1 := cell_of_row _ X2 1 _ _ _ hcw
          have q2 := cell_of_row _ X2 2 _ _ _ hcw
          have q3 := cell_of_row _ X2 3 _ _ _ hcw
          have q4 := cell_of_row _ X2 4 _ _ _ hcw
          have q5 := cell_of_row _ X2 5 _ _ _ hcw
          have q6 := cell_of_row _ X2 6 _ _ _ hcw
          have q7 := cell_of_row _ X2 7 _ _ _ hcw
          have q8 := cell_of_row _ X2 8 _ _ _ hcw
          have q9 := cell_of_row _ X2 9 _ _ _ hcw
          have q10 := cell_of_row _ X2 10 _ _ _ hcw
          have q11 := cell_of_row _ X2 11 _ _ _ hcw
          simp at q0 q1 q2 q3 q4 q5 q6 q7 q8 q9 q10 q11
          clear hcw
          have HRw := HR13.out.on hbw
          have HMw := HM13.out.on hbw
          have HSA9 := Lib.hid (same6_any (fun b => b ≠ X2) (fun b => b < X2) (m.less 6) (.agg #[.slice a1d k1 x1d, .slice a2d k2 x2d, .slice a3d k3 x3d, .slice a4d k4 x4d, .slice a5d k5 x5d, .slice a6d k6 x6d, .slice a7d k7 x7d, .bool h9, .int .u32 (s9 : Int), .slice a8d k8 x8d, .slice a9d k9 x9d, .slice a10d k10 x10d]) (.agg #[.slice a1 n1 x1, .slice a2 n2 x2, .slice a3 n3 x3, .slice a4 n4 x4, .slice a5 n5 x5, .slice none 0 0, .slice a7 n7 x7, .bool hst, .int .u32 (st : Int), .slice a8 n8 x8, .slice a9 n9 x9, .slice a10 n10 x10]) (w13.alloc (.cells #[.slice a1 n1 x1, .slice a2 n2 x2, .slice a3 n3 x3, .slice a4 n4 x4, .slice a5 n5 x5, .slice none 0 0, .slice a7 n7 x7, .bool hst, .int .u32 (st : Int), .slice a8 n8 x8, .slice a9 n9 x9, .slice a10 n10 x10] 35)) ⟨_, _, _, _, _, _, _, _, _, _, by unfold modCells; rw [KH.out, KS.out], HRw⟩ ⟨_, _, _, _, _, _, _, _, _, _, (by unfold modCells; rw [show (m.less 6).hasStart = hst from HH1.out, show (m.less 6).start = st from HH2.out]), ⟨HMw.types, HMw.imports, HMw.funcs, HMw.tables, HMw.mems, SliceV.nil _ _, HMw.exports, HMw.start, HMw.elems, HMw.codes, HMw.datas⟩⟩ HSM9.out)
          have HBw := Lib.hid (HB13.out.trans (hbw.mono HB13.out.size))
          clear hbw HRw HMw
          go_wp2_with (go_at_call 7; refine HSA9.out.mono ?_; rintro e w14 ⟨rfl, hb⟩; have HB14 := Lib.hid (HBw.out.trans (hb.mono HBw.out.size)); clear hb)
          go_ret
          exact ⟨rfl, HB14.out⟩
      · as_aux_lemma =>
          have hbw : Below w13.heap.size w13 (w13.alloc (.cells #[.slice a1 n1 x1, .slice a2 n2 x2, .slice a3 n3 x3, .slice a4 n4 x4, .slice a5 n5 x5, .slice a6 n6 x6, .slice none 0 0, .bool hst, .int .u32 (st : Int), .slice a8 n8 x8, .slice a9 n9 x9, .slice a10 n10 x10] 35)) := (Below.refl _ _).alloc (Nat.le_refl _) _
          have hcw := (hbw.block X2 (Array.getElem?_eq_some_iff.1 HC13.out).1).trans HC13.out
          have q0 := cell_of_row _ X2 0 _ _ _ hcw
          have q1 := cell_of_row _ X2 1 _ _ _ hcw
          have q2 := cell_of_row _ X2 2 _ _ _ hcw
          have q3 := cell_of_row _ X2 3 _ _ _ hcw
          have q4 := cell_of_row _ X2 4 _ _ _ hcw
          have q5 := cell_of_row _ X2 5 _ _ _ hcw
          have q6 := cell_of_row _ X2 6 _ _ _ hcw
          have q7 := cell_of_row _ X2 7 _ _ _ hcw
          have q8 := cell_of_row _ X2 8 _ _ _ hcw
          have q9 := cell_of_row _ X2 9 _ _ _ hcw
          have q10 := cell_of_row _ X2 10 _ _ _ hcw
          have q11 := cell_of_row _ X2 11 _ _ _ hcw
          simp at q0 q1 q2 q3 q4 q5 q6 q7 q8 q9 q10 q11
          clear hcw
          have HRw := HR13.out.on hbw
          have HMw := HM13.out.on hbw
          have HSA9 := Lib.hid (same6_any (fun b => b ≠ X2) (fun b => b < X2) (m.less 7) (.agg #[.slice a1d k1 x1d, .slice a2d k2 x2d, .slice a3d k3 x3d, .slice a4d k4 x4d, .slice a5d k5 x5d, .slice a6d k6 x6d, .slice a7d k7 x7d, .bool h9, .int .u32 (s9 : Int), .slice a8d k8 x8d, .slice a9d k9 x9d, .slice a10d k10 x10d]) (.agg #[.slice a1 n1 x1, .slice a2 n2 x2, .slice a3 n3 x3, .slice a4 n4 x4, .slice a5 n5 x5, .slice a6 n6 x6, .slice none 0 0, .bool hst, .int .u32 (st : Int), .slice a8 n8 x8, .slice a9 n9 x9, .slice a10 n10 x10]) (w13.alloc (.cells #[.slice a1 n1 x1, .slice a2 n2 x2, .slice a3 n3 x3, .slice a4 n4 x4, .slice a5 n5 x5, .slice a6 n6 x6, .slice none 0 0, .bool hst, .int .u32 (st : Int), .slice a8 n8 x8, .slice a9 n9 x9, .slice a10 n10 x10] 35)) ⟨_, _, _, _, _, _, _, _, _, _, by unfold modCells; rw [KH.out, KS.out], HRw⟩ ⟨_, _, _, _, _, _, _, _, _, _, (by unfold modCells; rw [show (m.less 7).hasStart = hst from HH1.out, show (m.less 7).start = st from HH2.out]), ⟨HMw.types, HMw.imports, HMw.funcs, HMw.tables, HMw.mems, HMw.globals, SliceV.nil _ _, HMw.start, HMw.elems, HMw.codes, HMw.datas⟩⟩ HSM9.out)
          have HBw := Lib.hid (HB13.out.trans (hbw.mono HB13.out.size))
          clear hbw HRw HMw
          go_wp2_with (go_at_call 7; refine HSA9.out.mono ?_; rintro e w14 ⟨rfl, hb⟩; have HB14 := Lib.hid (HBw.out.trans (hb.mono HBw.out.size)); clear hb)
          go_ret
          exact ⟨rfl, HB14.out⟩
      · as_aux_lemma =>
          have hbw : Below w13.heap.size w13 (w13.alloc (.cells #[.slice a1 n1 x1, .slice a2 n2 x2, .slice a3 n3 x3, .slice a4 n4 x4, .slice a5 n5 x5, .slice a6 n6 x6, .slice a7 n7 x7, .bool false, .int .u32 0, .slice a8 n8 x8, .slice a9 n9 x9, .slice a10 n10 x10] 35)) := (Below.refl _ _).alloc (Nat.le_refl _) _
          have hcw := (hbw.block X2 (Array.getElem?_eq_some_iff.1 HC13.out).1).trans HC13.out
          have q0 := cell_of_row _ X2 0 _ _ _ hcw
          have q1 := cell_of_row _ X2 1 _ _ _ hcw
          have q2 := cell_of_row _ X2 2 _ _ _ hcw
          have q3 := cell_of_row _ X2 3 _ _ _ hcw
          have q4 := cell_of_row _ X2 4 _ _ _ hcw
          have q5 := cell_of_row _ X2 5 _ _ _ hcw
          have q6 := cell_of_row _ X2 6 _ _ _ hcw
          have q7 := cell_of_row _ X2 7 _ _ _ hcw
          have q8 := cell_of_row _ X2 8 _ _ _ hcw
          have q9 := cell_of_row _ X2 9 _ _ _ hcw
          have q10 := cell_of_row _ X2 10 _ _ _ hcw
          have q11 := cell_of_row _ X2 11 _ _ _ hcw
          simp at q0 q1 q2 q3 q4 q5 q6 q7 q8 q9 q10 q11
          clear hcw
          have HRw := HR13.out.on hbw
          have HMw := HM13.out.on hbw
          have HSA9 := Lib.hid (same6_any (fun b => b ≠ X2) (fun b => b < X2) (m.less 8) (.agg #[.slice a1d k1 x1d, .slice a2d k2 x2d, .slice a3d k3 x3d, .slice a4d k4 x4d, .slice a5d k5 x5d, .slice a6d k6 x6d, .slice a7d k7 x7d, .bool h9, .int .u32 (s9 : Int), .slice a8d k8 x8d, .slice a9d k9 x9d, .slice a10d k10 x10d]) (.agg #[.slice a1 n1 x1, .slice a2 n2 x2, .slice a3 n3 x3, .slice a4 n4 x4, .slice a5 n5 x5, .slice a6 n6 x6, .slice a7 n7 x7, .bool false, .int .u32 0, .slice a8 n8 x8, .slice a9 n9 x9, .slice a10 n10 x10]) (w13.alloc (.cells #[.slice a1 n1 x1, .slice a2 n2 x2, .slice a3 n3 x3, .slice a4 n4 x4, .slice a5 n5 x5, .slice a6 n6 x6, .slice a7 n7 x7, .bool false, .int .u32 0, .slice a8 n8 x8, .slice a9 n9 x9, .slice a10 n10 x10] 35)) ⟨_, _, _, _, _, _, _, _, _, _, by unfold modCells; rw [KH.out, KS.out], HRw⟩ ⟨_, _, _, _, _, _, _, _, _, _, (by unfold modCells; rw [show (m.less 8).hasStart = false from rfl, show (m.less 8).start = 0 from rfl]; rfl), ⟨HMw.types, HMw.imports, HMw.funcs, HMw.tables, HMw.mems, HMw.globals, HMw.exports, (show 0 < 4294967296 by decide), HMw.elems, HMw.codes, HMw.datas⟩⟩ HSM9.out)
          have HBw := Lib.hid (HB13.out.trans (hbw.mono HB13.out.size))
          clear hbw HRw HMw
          go_wp2_with (go_at_call 7; refine HSA9.out.mono ?_; rintro e w14 ⟨rfl, hb⟩; have HB14 := Lib.hid (HBw.out.trans (hb.mono HBw.out.size)); clear hb)
          go_ret
          exact ⟨rfl, HB14.out⟩
      · as_aux_lemma =>
          have hbw : Below w13.heap.size w13 (w13.alloc (.cells #[.slice a1 n1 x1, .slice a2 n2 x2, .slice a3 n3 x3, .slice a4 n4 x4, .slice a5 n5 x5, .slice a6 n6 x6, .slice a7 n7 x7, .bool hst, .int .u32 (st : Int), .slice none 0 0, .slice a9 n9 x9, .slice a10 n10 x10] 35)) := (Below.refl _ _).alloc (Nat.le_refl _) _
          have hcw := (hbw.block X2 (Array.getElem?_eq_some_iff.1 HC13.out).1).trans HC13.out
          have q0 := cell_of_row _ X2 0 _ _ _ hcw
          have q1 := cell_of_row _ X2 1 _ _ _ hcw
          have q2 := cell_of_row _ X2 2 _ _ _ hcw
          have q3 := cell_of_row _ X2 3 _ _ _ hcw
          have q4 := cell_of_row _ X2 4 _ _ _ hcw
          have q5 := cell_of_row _ X2 5 _ _ _ hcw
          have q6 := cell_of_row _ X2 6 _ _ _ hcw
          have q7 := cell_of_row _ X2 7 _ _ _ hcw
          have q8 := cell_of_row _ X2 8 _ _ _ hcw
          have q9 := cell_of_row _ X2 9 _ _ _ hcw
          have q10 := cell_of_row _ X2 10 _ _ _ hcw
          have q11 := cell_of_row _ X2 11 _ _ _ hcw
          simp at q0 q1 q2 q3 q4 q5 q6 q7 q8 q9 q10 q11
          clear hcw
          have HRw := HR13.out.on hbw
          have HMw := HM13.out.on hbw
          have HSA9 := Lib.hid (same6_any (fun b => b ≠ X2) (fun b => b < X2) (m.less 9) (.agg #[.slice a1d k1 x1d, .slice a2d k2 x2d, .slice a3d k3 x3d, .slice a4d k4 x4d, .slice a5d k5 x5d, .slice a6d k6 x6d, .slice a7d k7 x7d, .bool h9, .int .u32 (s9 : Int), .slice a8d k8 x8d, .slice a9d k9 x9d, .slice a10d k10 x10d]) (.agg #[.slice a1 n1 x1, .slice a2 n2 x2, .slice a3 n3 x3, .slice a4 n4 x4, .slice a5 n5 x5, .slice a6 n6 x6, .slice a7 n7 x7, .bool hst, .int .u32 (st : Int), .slice none 0 0, .slice a9 n9 x9, .slice a10 n10 x10]) (w13.alloc (.cells #[.slice a1 n1 x1, .slice a2 n2 x2, .slice a3 n3 x3, .slice a4 n4 x4, .slice a5 n5 x5, .slice a6 n6 x6, .slice a7 n7 x7, .bool hst, .int .u32 (st : Int), .slice none 0 0, .slice a9 n9 x9, .slice a10 n10 x10] 35)) ⟨_, _, _, _, _, _, _, _, _, _, by unfold modCells; rw [KH.out, KS.out], HRw⟩ ⟨_, _, _, _, _, _, _, _, _, _, (by unfold modCells; rw [show (m.less 9).hasStart = hst from HH1.out, show (m.less 9).start = st from HH2.out]), ⟨HMw.types, HMw.imports, HMw.funcs, HMw.tables, HMw.mems, HMw.globals, HMw.exports, HMw.start, SliceV.nil _ _, HMw.codes, HMw.datas⟩⟩ HSM9.out)
          have HBw := Lib.hid (HB13.out.trans (hbw.mono HB13.out.size))
          clear hbw HRw HMw
          go_wp2_with (go_at_call 7; refine HSA9.out.mono ?_; rintro e w14 ⟨rfl, hb⟩; have HB14 := Lib.hid (HBw.out.trans (hb.mono HBw.out.size)); clear hb)
          go_ret
          exact ⟨rfl, HB14.out⟩
      · as_aux_lemma =>
          have hbw : Below w13.heap.size w13 (w13.alloc (.cells #[.slice a1 n1 x1, .slice a2 n2 x2, .slice a3 n3 x3, .slice a4 n4 x4, .slice a5 n5 x5, .slice a6 n6 x6, .slice a7 n7 x7, .bool hst, .int .u32 (st : Int), .slice a8 n8 x8, .slice a9 n9 x9, .slice none 0 0] 35)) := (Below.refl _ _).alloc (Nat.le_refl _) _
          have hcw := (hbw.block X2 (Array.getElem?_eq_some_iff.1 HC13.out).1).trans HC13.out
          have q0 := cell_of_row _ X2 0 _ _ _ hcw
          have q1 := cell_of_row _ X2 1 _ _ _ hcw
          have q2 := cell_of_row _ X2 2 _ _ _ hcw
          have q3 := cell_of_row _ X2 3 _ _ _ hcw
          have q4 := cell_of_row _ X2 4 _ _ _ hcw
          have q5 := cell_of_row _ X2 5 _ _ _ hcw
          have q6 := cell_of_row _ X2 6 _ _ _ hcw
          have q7 := cell_of_row _ X2 7 _ _ _ hcw
          have q8 := cell_of_row _ X2 8 _ _ _ hcw
          have q9 := cell_of_row _ X2 9 _ _ _ hcw
          have q10 := cell_of_row _ X2 10 _ _ _ hcw
          have q11 := cell_of_row _ X2 11 _ _ _ hcw
          simp at q0 q1 q2 q3 q4 q5 q6 q7 q8 q9 q10 q11
          clear hcw
          have HRw := HR13.out.on hbw
          have HMw := HM13.out.on hbw
          have HSA9 := Lib.hid (same6_any (fun b => b ≠ X2) (fun b => b < X2) (m.less 11) (.agg #[.slice a1d k1 x1d, .slice a2d k2 x2d, .slice a3d k3 x3d, .slice a4d k4 x4d, .slice a5d k5 x5d, .slice a6d k6 x6d, .slice a7d k7 x7d, .bool h9, .int .u32 (s9 : Int), .slice a8d k8 x8d, .slice a9d k9 x9d, .slice a10d k10 x10d]) (.agg #[.slice a1 n1 x1, .slice a2 n2 x2, .slice a3 n3 x3, .slice a4 n4 x4, .slice a5 n5 x5, .slice a6 n6 x6, .slice a7 n7 x7, .bool hst, .int .u32 (st : Int), .slice a8 n8 x8, .slice a9 n9 x9, .slice none 0 0]) (w13.alloc (.cells #[.slice a1 n1 x1, .slice a2 n2 x2, .slice a3 n3 x3, .slice a4 n4 x4, .slice a5 n5 x5, .slice a6 n6 x6, .slice a7 n7 x7, .bool hst, .int .u32 (st : Int), .slice a8 n8 x8, .slice a9 n9 x9, .slice none 0 0] 35)) ⟨_, _, _, _, _, _, _, _, _, _, by unfold modCells; rw [KH.out, KS.out], HRw⟩ ⟨_, _, _, _, _, _, _, _, _, _, (by unfold modCells; rw [show (m.less 11).hasStart = hst from HH1.out, show (m.less 11).start = st from HH2.out]), ⟨HMw.types, HMw.imports, HMw.funcs, HMw.tables, HMw.mems, HMw.globals, HMw.exports, HMw.start, HMw.elems, HMw.codes, SliceV.nil _ _⟩⟩ HSM9.out)
          have HBw := Lib.hid (HB13.out.trans (hbw.mono HB13.out.size))
          clear hbw HRw HMw
          go_wp2_with (go_at_call 7; refine HSA9.out.mono ?_; rintro e w14 ⟨rfl, hb⟩; have HB14 := Lib.hid (HBw.out.trans (hb.mono HBw.out.size)); clear hb)
          go_ret
          exact ⟨rfl, HB14.out⟩
/-- The statement, of any bytes and any number. -/
theorem binSections_any (hd : DecOk) (hs : SplitOk) (hj : JoinOk) (A : Option Addr) (l : List UInt8) (n c : Nat) (less : Int) (w : World) (hA : Has w w.heap.size A l) (hn : n = l.length) (hn47 : n ≤ 140737488355328) (hnc : n ≤ c) (hcm : c ≤ maxLen) (hAc : A = none → c = 0) (hl0 : -9223372036854775808 ≤ less) (hl1 : less ≤ 9223372036854775807) (hT : Tb w) :
    Calls Tryd.prog 4 #[.slice A n c, .int .i64 less] w fun e w' => e = .returned (.bool true) ∧ Below w.heap.size w w' := by
  by_cases hbig : 3000 < n
  · exact binSections_no hd A l n c less w hA hn hn47 hnc hcm hAc hT (.inl hbig)
  cases hm : dec l with
  | error k => exact binSections_no hd A l n c less w hA hn hn47 hnc hcm hAc hT (.inr ⟨k, hm⟩)
  | ok m => exact binSections_yes hd hs hj A l n c less w hA hn (by omega) hnc hcm hAc hl0 hl1 hT m hm
end Go.Proofs.YtaloenmpidbhlaaDoor
