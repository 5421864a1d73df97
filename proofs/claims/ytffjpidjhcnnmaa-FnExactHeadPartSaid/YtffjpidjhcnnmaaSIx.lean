/-
  Contracts of the library's functions at this program, laid off the kit's shelf in plain words.
-/
import Derived.Shelf.Strings.Search3
import Derived.Test.YtffjpidjhcnnmaaProg
namespace Go.Proofs
open Go.Shelf
def Try.lays143_ren : Go.Shelf.Ren := ⟨fun | 143 => 11 | 219 => 12 | 217 => 13 | 225 => 14 | 224 => 15 | 267 => 16 | 266 => 17 | 314 => 18 | n => n, fun | 9 => 9 | 3 => 3 | 4 => 4 | 5 => 5 | 46 => 31 | 146 => 33 | 51 => 32 | n => n, fun | 1 => 0 | n => n⟩
theorem Try.lays143 : Go.Proofs.Lays.n143 Try.prog Try.lays143_ren := {
  mixed := by kernel_rfl
  f143 := Try.func11.trans (congrArg some (by kernel_rfl))
  f217 := Try.func13.trans (congrArg some (by kernel_rfl))
  f219 := Try.func12.trans (congrArg some (by kernel_rfl))
  f224 := Try.func15.trans (congrArg some (by kernel_rfl))
  f225 := Try.func14.trans (congrArg some (by kernel_rfl))
  f266 := Try.func17.trans (congrArg some (by kernel_rfl))
  f267 := Try.func16.trans (congrArg some (by kernel_rfl))
  f314 := Try.func18.trans (congrArg some (by kernel_rfl))
  t3 := Try.underlying3
  a3 := Try.isAgg3
  z3 := Try.sizeOf3
  v3 := Try.zeroValue3
  t4 := Try.underlying4
  a4 := Try.isAgg4
  z4 := Try.sizeOf4
  v4 := Try.zeroValue4
  t5 := Try.underlying5
  a5 := Try.isAgg5
  z5 := Try.sizeOf5
  v5 := Try.zeroValue5
  t9 := Try.underlying9
  a9 := Try.isAgg9
  z9 := Try.sizeOf9
  v9 := Try.zeroValue9
  t46 := Try.underlying31
  a46 := Try.isAgg31
  z46 := Try.sizeOf31
  v46 := Try.zeroValue31
  t51 := Try.underlying32
  a51 := Try.isAgg32
  z51 := Try.sizeOf32
  v51 := Try.zeroValue32
  t146 := Try.underlying33
  a146 := Try.isAgg33
  z146 := Try.sizeOf33
  v146 := Try.zeroValue33
  g1 := by kernel_rfl }
end Go.Proofs
