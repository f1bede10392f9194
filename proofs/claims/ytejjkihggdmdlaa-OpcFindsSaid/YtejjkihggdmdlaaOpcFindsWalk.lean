/-
  The walk over the statement OpcFinds: for every string it answers true and leaves all memory that was there as it was.
-/
import Derived.Test.YtejjkihggdmdlaaOpcNamed
import Derived.Test.YtejjkihggdmdlaaOpcFacts
namespace Opc
theorem ops_filter : (List.range 256).filter (fun n => !(row n).name.isEmpty) = rows.map (·.op) := by decide +kernel
theorem rows_self : rows.all (fun r => row r.op == r) = true := by decide +kernel
theorem named_find (l : List UInt8) : find l = (named l).map (·.op) := by
  unfold find named
  have h1 : (List.range 256).find? (hit l) = ((List.range 256).filter (fun n => !(row n).name.isEmpty)).find? (fun n => (row n).name == l) := by
    rw [List.find?_filter]
    congr 1
    funext a
    unfold hit
    cases (!(row a).name.isEmpty) <;> cases ((row a).name == l) <;> rfl
  rw [h1, ops_filter, List.find?_map]
  refine congrArg _ ?_
  have h2 : ∀ rs : List Row, (∀ r ∈ rs, row r.op = r) → rs.find? ((fun n => (row n).name == l) ∘ fun x => x.op) = rs.find? fun r => r.name == l := by
    intro rs
    induction rs with
    | nil => intro _; rfl
    | cons r rs ih =>
      intro h
      have hr : row r.op = r := h r (by simp)
      rw [List.find?_cons, List.find?_cons, ih (fun x hx => h x (by simp [hx]))]
      simp only [Function.comp_apply, hr]
  exact h2 rows (fun r hr => by simpa using List.all_eq_true.1 rows_self r hr)
end Opc
namespace Go.Proofs.Ytejjkihggdmdlaa
open Go.RowKit
theorem finds_eq (o : Option Opc.Row) : (((o.map (·.op)).getD 0 : Nat) : Int) = ((o.getD Opc.none).op : Int) ∧ (o.map (·.op)).isSome = o.isSome := by cases o <;> exact ⟨rfl, rfl⟩
set_option maxHeartbeats 1000000 in
theorem finds_any (s : ByteArray) (w : World) : Calls Try.prog 4 #[.string s] w fun e w' => e = .returned (.bool true) ∧ Below w.heap.size w w' := by
  have hn := Opc.named_find s.toList
  obtain ⟨h1, h2⟩ := finds_eq (Opc.named s.toList)
  rw [← hn] at h1 h2
  have H1 := Lib.hid h1
  have H2 := Lib.hid h2
  clear hn h1 h2
  obtain ⟨NM, HNM⟩ : ∃ x, Hid (Opc.named s.toList = x) := ⟨_, Lib.hid rfl⟩
  obtain ⟨F, HF⟩ : ∃ x, Hid (Opc.find s.toList = x) := ⟨_, Lib.hid rfl⟩
  rw [HNM.out, HF.out] at H1 H2
  obtain ⟨r, hr⟩ : ∃ r, NM.getD Opc.none = r := ⟨_, rfl⟩
  obtain ⟨f, hf⟩ : ∃ r, ((F.getD 0 : Nat) : Int) = r := ⟨_, rfl⟩
  obtain ⟨b, hb⟩ : ∃ r, NM.isSome = r := ⟨_, rfl⟩
  have CN : ∀ w, Calls Try.prog 16 #[.string s] w fun e w' => e = .returned (.tuple #[.agg #[.int .u8 (r.op : Int), .string ⟨r.name.toArray⟩, .int .u8 (r.form : Int), .string ⟨r.sig.toArray⟩, .int .i64 (r.width : Int)], .bool b]) ∧ Below w.heap.size w w' := by
    intro w; have h := named_any s w; rw [HNM.out, hr, hb] at h; exact h
  have CF : ∀ w, Calls Try.prog 17 #[.string s] w fun e w' => e = .returned (.tuple #[.int .u8 f, .bool b]) ∧ Below w.heap.size w w' := by
    intro w; have h := find_any s w; rw [HF.out, hf, H2.out, hb] at h; exact h
  have HE : Hid (f = (r.op : Int)) := Lib.hid (by rw [← hf, H1.out, hr])
  obtain rfl := HE.out
  have HCN := Lib.hid CN
  have HCF := Lib.hid CF
  clear CN CF hr hf hb H1 H2 HNM HF HE
  go_enter Try.func4, Try.ntmps4
  go_wp2_with fail
  refine (rows_any _).mono ?_
  rintro e w1 ⟨rfl, hb1⟩
  have HB1 := Lib.hid hb1
  clear hb1
  go_wp2_with fail
  refine (HCN.out _).mono ?_
  rintro e w2 ⟨rfl, hb2⟩
  have HB2 := Lib.hid (HB1.out.trans (hb2.mono HB1.out.size))
  clear hb2 HB1
  go_wp2_with fail
  refine (HCF.out _).mono ?_
  rintro e w3 ⟨rfl, hb3⟩
  have hcell : w3.cell? ⟨w2.heap.size, 0, none⟩ = some (.int .u8 (r.op : Int)) := (hb3.cell (by simp)).trans (by simp [go_sem])
  have HB3 : Hid (Below w.heap.size w w3) := Lib.hid ((HB2.out.alloc HB2.out.size _).trans (hb3.mono (by have := HB2.out.size; simp; omega)))
  clear hb3 HB2
  cases b
  all_goals
    go_wp2_with fail
    go_ret
    exact ⟨rfl, HB3.out⟩
end Go.Proofs.Ytejjkihggdmdlaa
