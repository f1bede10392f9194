/-
  Plain mathematics of a module's canonical binary: its sections; decoded it is the module; what is decoded has one, no longer.
-/
import Derived.Test.YthkglmkpnhhboaaGreatDoorR01
import Derived.Test.YthkglmkpnhhboaaGreatDoorR09
set_option maxRecDepth 100000
set_option maxHeartbeats 4000000
namespace Bin
open Leb Ins Sec
structure okF (m : M) : Prop where
 types : ∀ x ∈ m.types, okFT x
 imports : ∀ x ∈ m.imports, okImp x
 funcs : ∀ x ∈ m.funcs, okNum x
 tables : ∀ x ∈ m.tables, okLim x
 mems : ∀ x ∈ m.mems, okLim x
 globals : ∀ x ∈ m.globals, okGV x
 exports : ∀ x ∈ m.exports, okExp x
 start : okNum m.start ∧ (m.hasStart = false → m.start = 0)
 elems : ∀ x ∈ m.elems, okEl x
 codes : ∀ x ∈ m.codes, okCd x
 datas : ∀ x ∈ m.datas, okDa x
structure okM (m : M) : Prop extends okF m where
 many : m.codes.length = m.funcs.length
def encTable (x : Lim) : List UInt8 := [112] ++ encLim x
def body (m : M) (id : Nat) : List UInt8 :=
 if id = 1 then encList encFT m.types else if id = 2 then encList encImp m.imports else if id = 3 then encList encU m.funcs else if id = 4 then encList encTable m.tables
 else if id = 5 then encList encLim m.mems else if id = 6 then encList encGV m.globals else if id = 7 then encList encExp m.exports else if id = 8 then encU m.start
 else if id = 9 then encList encEl m.elems else if id = 10 then encList encCd m.codes else encList encDa m.datas
def cnt (m : M) (id : Nat) : Nat :=
 if id = 1 then m.types.length else if id = 2 then m.imports.length else if id = 3 then m.funcs.length else if id = 4 then m.tables.length
 else if id = 5 then m.mems.length else if id = 6 then m.globals.length else if id = 7 then m.exports.length else if id = 8 then (if m.hasStart = true then 1 else 0)
 else if id = 9 then m.elems.length else if id = 10 then m.codes.length else m.datas.length
def ids : List Nat := [1, 2, 3, 4, 5, 6, 7, 8, 9, 10, 11]
def own (m : M) : List Nat := ids.filter fun i => decide (0 < cnt m i)
def secsOf (m : M) : List S := (own m).map fun i => ⟨i, body m i⟩
def encM (m : M) : List UInt8 := join (secsOf m)
def one (m : M) (id : Nat) : M :=
 if id = 1 then ⟨m.types, [], [], [], [], [], [], false, 0, [], [], []⟩ else if id = 2 then ⟨[], m.imports, [], [], [], [], [], false, 0, [], [], []⟩
 else if id = 3 then ⟨[], [], m.funcs, [], [], [], [], false, 0, [], [], []⟩ else if id = 4 then ⟨[], [], [], m.tables, [], [], [], false, 0, [], [], []⟩
 else if id = 5 then ⟨[], [], [], [], m.mems, [], [], false, 0, [], [], []⟩ else if id = 6 then ⟨[], [], [], [], [], m.globals, [], false, 0, [], [], []⟩
 else if id = 7 then ⟨[], [], [], [], [], [], m.exports, false, 0, [], [], []⟩ else if id = 8 then ⟨[], [], [], [], [], [], [], true, m.start, [], [], []⟩
 else if id = 9 then ⟨[], [], [], [], [], [], [], false, 0, m.elems, [], []⟩ else if id = 10 then ⟨[], [], [], [], [], [], [], false, 0, [], m.codes, []⟩
 else ⟨[], [], [], [], [], [], [], false, 0, [], [], m.datas⟩
theorem encFT_pos (x : FT) : 1 ≤ (encFT x).length := by simp [encFT]
theorem encImp_pos (x : Imp) : 1 ≤ (encImp x).length := by simp [encImp]; omega
theorem iX (x : Lim) : 1 ≤ (encTable x).length := by simp [encTable]
theorem encLim_pos (x : Lim) : 1 ≤ (encLim x).length := by unfold encLim; split <;> simp
theorem encGV_pos (x : GV) : 1 ≤ (encGV x).length := by simp [encGV, encGlob]
theorem encExp_pos (x : Exp) : 1 ≤ (encExp x).length := by simp [encExp]; omega
theorem encEl_pos (x : El) : 1 ≤ (encEl x).length := by have := encU_pos x.table; simp [encEl]; omega
theorem encCd_pos (x : Cd) : 1 ≤ (encCd x).length := by have := encU_pos (cdB x).length; simp [encCd]; omega
theorem encDa_pos (x : Da) : 1 ≤ (encDa x).length := by have := encU_pos x.mem; simp [encDa]; omega
theorem cu {i : Nat} (h : i ∈ ids) : i = 1 ∨ i = 2 ∨ i = 3 ∨ i = 4 ∨ i = 5 ∨ i = 6 ∨ i = 7 ∨ i = 8 ∨ i = 9 ∨ i = 10 ∨ i = 11 := by simpa [ids] using h
theorem aX {α : Type} {p : P α} {ok : α → Prop} {e : α → List UInt8} (hp : am p ok e) (h1 : ∀ x, 1 ≤ (e x).length) {xs : List α} (h : ∀ x ∈ xs, ok x) (hl : (encList e xs).length < 4294967296) : whole (list p) (encList e xs) = .ok xs :=
 dq (cX hp h1) xs h hl
theorem sec_body {m : M} (h : okM m) {i : Nat} (hi : i ∈ ids) (hl : (body m i).length < 4294967296) : sec i (body m i) = .ok (one m i) := by
 rcases cu hi with rfl | rfl | rfl | rfl | rfl | rfl | rfl | rfl | rfl | rfl | rfl
 ·show (whole (list ft) (encList encFT m.types)).map _ = _
  rw [aX ft_there encFT_pos h.types hl]; rfl
 ·show (whole (list imp) (encList encImp m.imports)).map _ = _
  rw [aX imp_there encImp_pos h.imports hl]; rfl
 ·show (whole (list num) (encList encU m.funcs)).map _ = _
  rw [aX dl encU_pos h.funcs hl]; rfl
 ·show (whole (list table) (encList encTable m.tables)).map _ = _
  rw [aX (e := encTable) ff iX h.tables hl]; rfl
 ·show (whole (list lim) (encList encLim m.mems)).map _ = _
  rw [aX ez encLim_pos h.mems hl]; rfl
 ·show (whole (list gv) (encList encGV m.globals)).map _ = _
  rw [aX gv_there encGV_pos h.globals hl]; rfl
 ·show (whole (list exp) (encList encExp m.exports)).map _ = _
  rw [aX exp_there encExp_pos h.exports hl]; rfl
 ·show (whole num (encU m.start)).map _ = _
  rw [dq dl m.start h.start.1 hl]; rfl
 ·show (whole (list el) (encList encEl m.elems)).map _ = _
  rw [aX el_there encEl_pos h.elems hl]; rfl
 ·show (whole (list cd) (encList encCd m.codes)).map _ = _
  rw [aX cd_there encCd_pos h.codes hl]; rfl
 ·show (whole (list da) (encList encDa m.datas)).map _ = _
  rw [aX da_there encDa_pos h.datas hl]; rfl
theorem rises_of (b : Nat → List UInt8) : ∀ (l : List Nat) (k : Nat), l.Pairwise (· < ·) → (∀ i ∈ l, k < i ∧ i ≤ 11) → rises k (l.map fun i => (⟨i, b i⟩ : S)) = true
 | [], _, _, _ => rfl
 | i :: l, k, hp, h => by
  obtain ⟨h1, h2⟩ := List.pairwise_cons.1 hp
  have h3 := h i (by simp)
  simp only [List.map_cons, rises, Bool.and_eq_true, decide_eq_true_eq]
  exact ⟨⟨h3.1, h3.2⟩, rises_of b l i h2 (fun j hj => ⟨h1 j hj, (h j (by simp [hj])).2⟩)⟩
theorem fy (m : M) : ∀ i ∈ own m, i ∈ ids ∧ 0 < cnt m i := fun i hi => by
 unfold own at hi
 rw [List.mem_filter] at hi
 exact ⟨hi.1, by simpa using hi.2⟩
theorem dW (m : M) : (own m).Pairwise (· < ·) := List.Pairwise.filter _ (by decide)
theorem ids_range {i : Nat} (h : i ∈ ids) : 0 < i ∧ i ≤ 11 := by
 rcases cu h with rfl | rfl | rfl | rfl | rfl | rfl | rfl | rfl | rfl | rfl | rfl <;> omega
theorem gV (m : M) : rises 0 (secsOf m) = true := rises_of _ _ 0 (dW m) (fun i hi => ids_range (fy m i hi).1)
theorem iR {m : M} {i : Nat} (hi : i ∈ own m) : (body m i).length ≤ (encM m).length := by
 have h1 : (⟨i, body m i⟩ : S) ∈ secsOf m := List.mem_map.2 ⟨i, hi, rfl⟩
 have h2 := eC (e := Sec.enc) h1
 have h3 : (body m i).length ≤ (Sec.enc ⟨i, body m i⟩).length := by simp [Sec.enc]; omega
 simp only [encM, join, Sec.encAll, List.length_append]
 omega
theorem secs_map (m : M) (b : Nat → List UInt8) : ∀ (l : List Nat) (g : Nat → M), l.Pairwise (· < ·) → (∀ i ∈ l, sec i (b i) = .ok (one m i)) → ∃ f, secs g (l.map fun i => (⟨i, b i⟩ : S)) = .ok f ∧ (∀ i ∈ l, f i = one m i) ∧ ∀ i, i ∉ l → f i = g i
 | [], g, _, _ => ⟨g, rfl, by simp, fun _ _ => rfl⟩
 | i :: l, g, hp, h => by
  obtain ⟨h1, h2⟩ := List.pairwise_cons.1 hp
  obtain ⟨f, e1, e2, e3⟩ := secs_map m b l (upd g i (one m i)) h2 (fun j hj => h j (by simp [hj]))
  refine ⟨f, ?_, fun j hj => ?_, fun j hj => ?_⟩
  ·simp only [List.map_cons, secs]
   rw [h i (by simp)]
   exact e1
  ·rcases List.mem_cons.1 hj with rfl | hj
   ·rw [e3 j (fun hm => by have := h1 j hm; omega)]
    simp [upd]
   ·exact e2 j hj
  ·simp only [List.mem_cons, not_or] at hj
   rw [e3 j hj.2]
   simp [upd, hj.1]
theorem cI {α : Type} {l : List α} (h : ¬ 0 < l.length) : l = [] := List.eq_nil_of_length_eq_zero (by omega)
theorem of_own {m : M} (hs : m.hasStart = false → m.start = 0) {f : Nat → M} (h1 : ∀ i ∈ own m, f i = one m i) (h2 : ∀ i, i ∉ own m → f i = M.zero) : M.of f = m := by
 have key : ∀ i ∈ ids, f i = if 0 < cnt m i then one m i else M.zero := fun i hi => by
  by_cases hc : 0 < cnt m i
  ·rw [if_pos hc]
   exact h1 i (List.mem_filter.2 ⟨hi, by simpa using hc⟩)
  ·rw [if_neg hc]
   exact h2 i (fun hm => hc (fy m i hm).2)
 have k1 := key 1 (by decide)
 have k2 := key 2 (by decide)
 have k3 := key 3 (by decide)
 have k4 := key 4 (by decide)
 have k5 := key 5 (by decide)
 have k6 := key 6 (by decide)
 have k7 := key 7 (by decide)
 have k8 := key 8 (by decide)
 have k9 := key 9 (by decide)
 have k10 := key 10 (by decide)
 have k11 := key 11 (by decide)
 clear key h1 h2
 obtain ⟨a1, a2, a3, a4, a5, a6, a7, a8, b8, a9, a10, a11⟩ := m
 unfold M.of
 congr 1
 ·rw [k1]
  split
  ·rfl
  ·next h => rw [cI (l := a1) h]; rfl
 ·rw [k2]
  split
  ·rfl
  ·next h => rw [cI (l := a2) h]; rfl
 ·rw [k3]
  split
  ·rfl
  ·next h => rw [cI (l := a3) h]; rfl
 ·rw [k4]
  split
  ·rfl
  ·next h => rw [cI (l := a4) h]; rfl
 ·rw [k5]
  split
  ·rfl
  ·next h => rw [cI (l := a5) h]; rfl
 ·rw [k6]
  split
  ·rfl
  ·next h => rw [cI (l := a6) h]; rfl
 ·rw [k7]
  split
  ·rfl
  ·next h => rw [cI (l := a7) h]; rfl
 ·rw [k8]; cases a8 <;> rfl
 ·rw [k8]; cases a8
  ·exact (hs rfl).symm
  ·rfl
 ·rw [k9]
  split
  ·rfl
  ·next h => rw [cI (l := a9) h]; rfl
 ·rw [k10]
  split
  ·rfl
  ·next h => rw [cI (l := a10) h]; rfl
 ·rw [k11]
  split
  ·rfl
  ·next h => rw [cI (l := a11) h]; rfl
theorem split_encM {m : M} (hl : (encM m).length < 4294967296) : split (encM m) = some (secsOf m) := by
 refine split_join _ (gV m) (fun s hs => ?_)
 obtain ⟨i, hi, rfl⟩ := List.mem_map.1 hs
 have := iR hi
 dsimp only
 omega
theorem fX {m : M} (h : okM m) (hl : (encM m).length ≤ 65536) : dec (encM m) = .ok m := by
 obtain ⟨f, e1, e2, e3⟩ := secs_map m (body m) (own m) (fun _ => M.zero) (dW m) (fun i hi => sec_body h (fy m i hi).1 (by have := iR hi; omega))
 have hf := of_own h.start.2 e2 e3
 have hc : (f 10).codes.length = (f 3).funcs.length := by
  have h1 : (M.of f).codes = m.codes := by rw [hf]
  have h2 : (M.of f).funcs = m.funcs := by rw [hf]
  have h3 : (f 10).codes = m.codes := h1
  have h4 : (f 3).funcs = m.funcs := h2
  rw [h3, h4]
  exact h.many
 rw [dec_of hl (split_encM (by omega)) e1 hc, hf]
theorem gf : okF M.zero := ⟨nofun, nofun, nofun, nofun, nofun, nofun, nofun, ⟨by show (0 : Nat) < 4294967296; omega, fun _ => rfl⟩, nofun, nofun, nofun⟩
theorem av {α : Type} {p : P α} {ok : α → Prop} {e : α → List UInt8} (hp : Back p ok e) {b : List UInt8} {xs : List α} (h : whole (list p) b = .ok xs) : (∀ x ∈ xs, ok x) ∧ (encList e xs).length ≤ b.length := by
 obtain ⟨h1, h2, _⟩ := dC hp _ _ _ (er h)
 exact ⟨h1, h2⟩
theorem sec_back {i : Nat} (hi : i ∈ ids) {b : List UInt8} {x : M} (h : sec i b = .ok x) : okF x ∧ (body x i).length ≤ b.length := by
 have z := gf
 rcases cu hi with rfl | rfl | rfl | rfl | rfl | rfl | rfl | rfl | rfl | rfl | rfl
 ·obtain ⟨y, h1, rfl⟩ := aP (show (whole (list ft) b).map _ = _ from h)
  obtain ⟨h2, h3⟩ := av ft_back h1
  exact ⟨⟨h2, z.2, z.3, z.4, z.5, z.6, z.7, z.8, z.9, z.10, z.11⟩, h3⟩
 ·obtain ⟨y, h1, rfl⟩ := aP (show (whole (list imp) b).map _ = _ from h)
  obtain ⟨h2, h3⟩ := av imp_back h1
  exact ⟨⟨z.1, h2, z.3, z.4, z.5, z.6, z.7, z.8, z.9, z.10, z.11⟩, h3⟩
 ·obtain ⟨y, h1, rfl⟩ := aP (show (whole (list num) b).map _ = _ from h)
  obtain ⟨h2, h3⟩ := av f9 h1
  exact ⟨⟨z.1, z.2, h2, z.4, z.5, z.6, z.7, z.8, z.9, z.10, z.11⟩, h3⟩
 ·obtain ⟨y, h1, rfl⟩ := aP (show (whole (list table) b).map _ = _ from h)
  obtain ⟨h2, h3⟩ := av gd h1
  exact ⟨⟨z.1, z.2, z.3, h2, z.5, z.6, z.7, z.8, z.9, z.10, z.11⟩, h3⟩
 ·obtain ⟨y, h1, rfl⟩ := aP (show (whole (list lim) b).map _ = _ from h)
  obtain ⟨h2, h3⟩ := av fN h1
  exact ⟨⟨z.1, z.2, z.3, z.4, h2, z.6, z.7, z.8, z.9, z.10, z.11⟩, h3⟩
 ·obtain ⟨y, h1, rfl⟩ := aP (show (whole (list gv) b).map _ = _ from h)
  obtain ⟨h2, h3⟩ := av gv_back h1
  exact ⟨⟨z.1, z.2, z.3, z.4, z.5, h2, z.7, z.8, z.9, z.10, z.11⟩, h3⟩
 ·obtain ⟨y, h1, rfl⟩ := aP (show (whole (list exp) b).map _ = _ from h)
  obtain ⟨h2, h3⟩ := av exp_back h1
  exact ⟨⟨z.1, z.2, z.3, z.4, z.5, z.6, h2, z.8, z.9, z.10, z.11⟩, h3⟩
 ·obtain ⟨y, h1, rfl⟩ := aP (show (whole num b).map _ = _ from h)
  obtain ⟨h2, h3, _⟩ := bq (er h1)
  exact ⟨⟨z.1, z.2, z.3, z.4, z.5, z.6, z.7, ⟨h2, fun e => by cases e⟩, z.9, z.10, z.11⟩, h3⟩
 ·obtain ⟨y, h1, rfl⟩ := aP (show (whole (list el) b).map _ = _ from h)
  obtain ⟨h2, h3⟩ := av el_back h1
  exact ⟨⟨z.1, z.2, z.3, z.4, z.5, z.6, z.7, z.8, h2, z.10, z.11⟩, h3⟩
 ·obtain ⟨y, h1, rfl⟩ := aP (show (whole (list cd) b).map _ = _ from h)
  obtain ⟨h2, h3⟩ := av cd_back h1
  exact ⟨⟨z.1, z.2, z.3, z.4, z.5, z.6, z.7, z.8, z.9, h2, z.11⟩, h3⟩
 ·obtain ⟨y, h1, rfl⟩ := aP (show (whole (list da) b).map _ = _ from h)
  obtain ⟨h2, h3⟩ := av da_back h1
  exact ⟨⟨z.1, z.2, z.3, z.4, z.5, z.6, z.7, z.8, z.9, z.10, h2⟩, h3⟩
theorem of_okF {f : Nat → M} (h : ∀ i, okF (f i)) : okF (M.of f) := ⟨(h 1).1, (h 2).2, (h 3).3, (h 4).4, (h 5).5, (h 6).6, (h 7).7, (h 8).8, (h 9).9, (h 10).10, (h 11).11⟩
theorem secs_okF : ∀ (xs : List S) (g f : Nat → M), secs g xs = .ok f → (∀ s ∈ xs, s.id ∈ ids) → (∀ i, okF (g i)) → ∀ i, okF (f i)
 | [], g, f, h, _, hg => by injection h with h; subst h; exact hg
 | s :: xs, g, f, h, hi, hg => by
  simp only [secs] at h
  cases e : sec s.id s.b with
  | error k => rw [e] at h; cases h
  | ok x =>
   rw [e] at h
   refine secs_okF xs _ f h (fun t ht => hi t (by simp [ht])) (fun i => ?_)
   unfold upd
   split
   ·exact (sec_back (hi s (by simp)) e).1
   ·exact hg i
theorem secs_at : ∀ (xs : List S) (k : Nat) (g f : Nat → M), secs g xs = .ok f → rises k xs = true → ∀ s ∈ xs, sec s.id s.b = .ok (f s.id)
 | [], _, _, _, _, _, s, hs => by cases hs
 | t :: xs, k, g, f, h, hr, s, hs => by
  simp only [secs] at h
  cases e : sec t.id t.b with
  | error z => rw [e] at h; cases h
  | ok x =>
   rw [e] at h
   simp only [rises, Bool.and_eq_true] at hr
   rcases List.mem_cons.1 hs with rfl | hs
   ·have := dO xs _ f s.id h (fun u hu e2 => by have := (dm _ _ hr.2 u hu).1; omega)
    rw [this, e]
    simp [upd]
   ·exact secs_at xs t.id _ f h hr.2 s hs
theorem body_of (f : Nat → M) {i : Nat} (hi : i ∈ ids) : body (M.of f) i = body (f i) i := by
 rcases cu hi with rfl | rfl | rfl | rfl | rfl | rfl | rfl | rfl | rfl | rfl | rfl <;> rfl
theorem cnt_of (f : Nat → M) {i : Nat} (hi : i ∈ ids) : cnt (M.of f) i = cnt (f i) i := by
 rcases cu hi with rfl | rfl | rfl | rfl | rfl | rfl | rfl | rfl | rfl | rfl | rfl <;> rfl
theorem cnt_zero {i : Nat} (hi : i ∈ ids) : cnt M.zero i = 0 := by
 rcases cu hi with rfl | rfl | rfl | rfl | rfl | rfl | rfl | rfl | rfl | rfl | rfl <;> rfl
theorem sum_le (w : Nat → Nat) : ∀ (xs : List S) (k : Nat) (o : List Nat), rises k xs = true → o.Pairwise (· < ·) → (∀ i ∈ o, ∃ s ∈ xs, s.id = i) → (∀ s ∈ xs, w s.id ≤ (Sec.enc s).length) → (o.map w).sum ≤ (Sec.encAll xs).length
 | [], _, o, _, _, h, _ => by
  cases o with
  | nil => simp
  | cons i o => obtain ⟨s, hs, _⟩ := h i (by simp); cases hs
 | s :: xs, k, [], _, _, _, _ => by simp
 | s :: xs, k, i :: o, hr, hp, h, hw => by
  simp only [rises, Bool.and_eq_true] at hr
  obtain ⟨h1, h2⟩ := List.pairwise_cons.1 hp
  have hgt : ∀ t ∈ xs, s.id < t.id := fun t ht => (dm _ _ hr.2 t ht).1
  have hen : (Sec.encAll (s :: xs)).length = (Sec.enc s).length + (Sec.encAll xs).length := by simp [Sec.encAll]
  rw [hen]
  by_cases hi : s.id = i
  ·have ih := sum_le w xs s.id o hr.2 h2 (fun j hj => by
    obtain ⟨t, ht, e⟩ := h j (by simp [hj])
    rcases List.mem_cons.1 ht with rfl | ht
    ·have := h1 j hj; omega
    ·exact ⟨t, ht, e⟩) (fun t ht => hw t (by simp [ht]))
   have := hw s (by simp)
   rw [hi] at this
   simp only [List.map_cons, List.sum_cons]
   omega
  ·have hlt : s.id < i := by
    obtain ⟨t, ht, e⟩ := h i (by simp)
    rcases List.mem_cons.1 ht with rfl | ht
    ·omega
    ·have := hgt t ht; omega
   have ih := sum_le w xs s.id (i :: o) hr.2 hp (fun j hj => by
    obtain ⟨t, ht, e⟩ := h j hj
    rcases List.mem_cons.1 ht with rfl | ht
    ·rcases List.mem_cons.1 hj with rfl | hj
     ·omega
     ·have := h1 j hj; omega
    ·exact ⟨t, ht, e⟩) (fun t ht => hw t (by simp [ht]))
   omega
theorem gn (m : M) : ∀ o : List Nat, (Sec.encAll (o.map fun i => (⟨i, body m i⟩ : S))).length = (o.map fun i => (Sec.enc ⟨i, body m i⟩).length).sum
 | [] => rfl
 | i :: o => by
  have := gn m o
  simp only [Sec.encAll, List.map_cons, List.flatMap_cons, List.length_append, List.sum_cons] at this ⊢
  omega
theorem enc_mono {i : Nat} {a b : List UInt8} (h : a.length ≤ b.length) : (Sec.enc ⟨i, a⟩).length ≤ (Sec.enc ⟨i, b⟩).length := by
 have := ia h
 simp only [Sec.enc, List.length_cons, List.length_append]
 omega
theorem dec_back {l : List UInt8} {m : M} (h : dec l = .ok m) : okM m ∧ (encM m).length ≤ l.length := by
 obtain ⟨h0, xs, f, h1, h2, h3, rfl⟩ := dec_ok h
 obtain ⟨b1, b2, b3, _⟩ := split_back h1
 have hids : ∀ s ∈ xs, s.id ∈ ids := fun s hs => by
  obtain ⟨g1, g2⟩ := dm 0 _ b1 s hs
  have : s.id = 1 ∨ s.id = 2 ∨ s.id = 3 ∨ s.id = 4 ∨ s.id = 5 ∨ s.id = 6 ∨ s.id = 7 ∨ s.id = 8 ∨ s.id = 9 ∨ s.id = 10 ∨ s.id = 11 := by omega
  simpa [ids] using this
 refine ⟨⟨of_okF (secs_okF xs _ f h2 hids (fun _ => gf)), h3⟩, ?_⟩
 have key := sum_le (fun i => (Sec.enc ⟨i, body (M.of f) i⟩).length) xs 0 (own (M.of f)) b1 (dW _) (fun i hi => ?_) (fun s hs => ?_)
 ·unfold encM secsOf join
  unfold join at b3
  rw [List.length_append] at b3 ⊢
  rw [gn]
  omega
 ·obtain ⟨g1, g2⟩ := fy _ i hi
  rw [cnt_of f g1] at g2
  apply Classical.byContradiction
  intro hn
  rw [dO xs _ f i h2 (fun t ht e => hn ⟨t, ht, e⟩), cnt_zero g1] at g2
  omega
 ·have g := secs_at xs 0 _ f h2 b1 s hs
  have g2 := (sec_back (hids s hs) g).2
  rw [body_of f (hids s hs)]
  exact enc_mono g2
open Classical in
noncomputable def encode (m : M) : Except Nat (List UInt8) := if okM m then (if 65536 < (encM m).length then .error 3 else .ok (encM m)) else .error 2
theorem eA {m : M} {b : List UInt8} (h : encode m = .ok b) : okM m ∧ (encM m).length ≤ 65536 ∧ b = encM m := by
 unfold encode at h
 split at h
 ·next h1 =>
  split at h
  ·cases h
  ·next h2 => injection h with h; exact ⟨h1, by omega, h.symm⟩
 ·cases h
theorem fO {m : M} {b : List UInt8} (h : encode m = .ok b) : dec b = .ok m := by
 obtain ⟨h1, h2, rfl⟩ := eA h
 exact fX h1 h2
theorem cM {m : M} (h1 : okM m) (h2 : (encM m).length ≤ 65536) : encode m = .ok (encM m) := by
 unfold encode
 rw [if_pos h1, if_neg (by omega)]
theorem encode_err {m : M} {k : Nat} (h : encode m = .error k) : k = 2 ∨ k = 3 := by
 unfold encode at h
 split at h
 ·split at h
  ·injection h with h; exact .inr h.symm
  ·cases h
 ·injection h with h; exact .inl h.symm
end Bin
