/-
  What the statements of layer 7 go through, as a property of a module.
-/
import Derived.Test.YtmpelmihdpomjaaGreatSo01
import Derived.Test.YtmpelmihdpomjaaGreatSo08
import Derived.Test.YtmpelmihdpomjaaGreatSo14
set_option maxRecDepth 100000
set_option maxHeartbeats 4000000
namespace Bin
open Ins
structure Small (m:M):Prop where
 lens:m.types.length ≤ 4000 ∧ m.imports.length ≤ 4000 ∧ m.funcs.length ≤ 4000 ∧ m.tables.length ≤ 4000 ∧ m.mems.length ≤ 4000 ∧ m.globals.length ≤ 4000 ∧ m.exports.length ≤ 4000 ∧ m.elems.length ≤ 4000 ∧ m.codes.length ≤ 4000 ∧ m.datas.length ≤ 4000
 types:∀ x ∈ m.types,x.params.length ≤ 1000000 ∧ x.results.length ≤ 1000000
 imports:∀ x ∈ m.imports,x.mod.length ≤ 1000000 ∧ x.name.length ≤ 1000000
 globals:∀ x ∈ m.globals,Ins.many x.init ≤ 200000
 exports:∀ x ∈ m.exports,x.name.length ≤ 1000000
 elems:∀ x ∈ m.elems,Ins.many x.off ≤ 200000 ∧ x.funcs.length ≤ 100000
 codes:∀ x ∈ m.codes,x.locals.length ≤ 100000 ∧ Ins.many x.body ≤ 200000
 datas:∀ x ∈ m.datas,Ins.many x.off ≤ 200000 ∧ x.b.length ≤ 1000000
end Bin
