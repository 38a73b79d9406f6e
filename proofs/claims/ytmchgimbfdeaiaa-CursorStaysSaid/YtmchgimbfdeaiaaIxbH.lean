/- The library's contracts at this program, in plain words. -/
import Derived.Test.YtmchgimbfdeaiaaProg
import Derived.Shelf.Small.Strs
namespace Go.Proofs.Ytmchgimbfdeaiaa
open Go.Shelf
def ixbL_ren : Go.Shelf.Ren := ⟨fun | 137 => 54 | 217 => 61 | 266 => 67 | n => n, fun | 9 => 9 | 5 => 5 | 3 => 3 | n => n, fun | n => n⟩
theorem ixbL : Go.Proofs.Lays.n137 Try.prog ixbL_ren := {
  mixed := by kernel_rfl
  f137 := Try.func54.trans (congrArg some (by kernel_rfl))
  f217 := Try.func61.trans (congrArg some (by kernel_rfl))
  f266 := Try.func67.trans (congrArg some (by kernel_rfl))
  t3 := Try.underlying3
  a3 := Try.isAgg3
  z3 := Try.sizeOf3
  v3 := Try.zeroValue3
  t5 := Try.underlying5
  a5 := Try.isAgg5
  z5 := Try.sizeOf5
  v5 := Try.zeroValue5
  t9 := Try.underlying9
  a9 := Try.isAgg9
  z9 := Try.sizeOf9
  v9 := Try.zeroValue9 }
end Go.Proofs.Ytmchgimbfdeaiaa
