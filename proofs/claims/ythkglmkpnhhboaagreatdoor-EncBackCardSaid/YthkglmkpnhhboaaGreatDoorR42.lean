/-
  contents' contract, over any module.
-/
import Derived.Test.YthkglmkpnhhboaaGreatDoorR01
import Derived.Test.YthkglmkpnhhboaaGreatDoorR40
import Derived.Test.YthkglmkpnhhboaaGreatDoorR39
set_option maxRecDepth 100000
set_option maxHeartbeats 4000000
namespace Go.Proofs.YthkglmkpnhhboaaGreatDoor
open Go.RowKit Ins Bin
theorem cont_ok : ContOk := by
 intro B m v1 v2 v3 v4 v5 v6 v7 v8 v9 v10 S w hm hM
 obtain ⟨A1, c1, rfl, _⟩ := hM.types
 obtain ⟨A2, c2, rfl, _⟩ := hM.imports
 obtain ⟨A3, c3, rfl, _⟩ := hM.funcs
 obtain ⟨A4, c4, rfl, _⟩ := hM.tables
 obtain ⟨A5, c5, rfl, _⟩ := hM.mems
 obtain ⟨A6, c6, rfl, _⟩ := hM.globals
 obtain ⟨A7, c7, rfl, _⟩ := hM.exports
 obtain ⟨A9, c9, rfl, _⟩ := hM.elems
 obtain ⟨A10, c10, rfl, _⟩ := hM.codes
 obtain ⟨A11, c11, rfl, _⟩ := hM.datas
 exact econt_any B _ c1 _ c2 _ c3 _ c4 _ c5 _ c6 _ c7 _ c9 _ c10 _ c11 A1 A2 A3 A4 A5 A6 A7 A9 A10 A11 m.hasStart m.start w hm
end Go.Proofs.YthkglmkpnhhboaaGreatDoor
