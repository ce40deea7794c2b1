/- maps.Clone at both maps: its functions are those of the library's contract. -/
import Derived.Shelf.SlMaps.Clone
import Derived.Test.YtahlfncijbkcoaaDoorProg
namespace Go.Proofs.YtahlfncijbkcoaaDoor
open Go.Shelf
def lay_cloneH_ren : Go.Shelf.Ren := ⟨fun | 5 => 19 | 7 => 35 | n => n, fun | 23 => 43 | 25 => 51 | 3 => 30 | 4 => 4 | 20 => 20 | n => n, fun | n => n⟩
theorem lay_cloneH : Go.Proofs.SlLaysW.n5 Tryd.prog lay_cloneH_ren := {
  mixed := by kernel_rfl
  f5 := ⟨Tryd.f19.name, by decide, Tryd.func19.trans (congrArg some (by kernel_rfl))⟩
  f7 := Tryd.func35.trans (congrArg some (by kernel_rfl))
  t4 := Tryd.underlying4
  a4 := Tryd.isAgg4
  z4 := Tryd.sizeOf4
  v4 := Tryd.zeroValue4
  t20 := Tryd.underlying20
  a20 := Tryd.isAgg20
  z20 := Tryd.sizeOf20
  v20 := Tryd.zeroValue20
  t23 := Tryd.underlying43
  a23 := Tryd.isAgg43
  z23 := Tryd.sizeOf43
  v23 := Tryd.zeroValue43 }
def lay_cloneS_ren : Go.Shelf.Ren := ⟨fun | 5 => 20 | 7 => 35 | n => n, fun | 23 => 44 | 25 => 9 | 3 => 30 | 4 => 4 | 20 => 20 | n => n, fun | n => n⟩
theorem lay_cloneS : Go.Proofs.SlLaysW.n5 Tryd.prog lay_cloneS_ren := {
  mixed := by kernel_rfl
  f5 := ⟨Tryd.f20.name, by decide, Tryd.func20.trans (congrArg some (by kernel_rfl))⟩
  f7 := Tryd.func35.trans (congrArg some (by kernel_rfl))
  t4 := Tryd.underlying4
  a4 := Tryd.isAgg4
  z4 := Tryd.sizeOf4
  v4 := Tryd.zeroValue4
  t20 := Tryd.underlying20
  a20 := Tryd.isAgg20
  z20 := Tryd.sizeOf20
  v20 := Tryd.zeroValue20
  t23 := Tryd.underlying44
  a23 := Tryd.isAgg44
  z23 := Tryd.sizeOf44
  v23 := Tryd.zeroValue44 }
end Go.Proofs.YtahlfncijbkcoaaDoor
