/-
  Contracts of library functions at this program: each is one application of a theorem of the library.
-/
import Derived.Test.YtfhhpkaojnnobaaDoorProg
import Derived.Shelf.Slices.In.SortNone
import Derived.Shelf.Sort.Plain
namespace Go.Proofs
open Go.Shelf
def Tryd.lays189_ren : Go.Shelf.Ren := ⟨fun | 189 => 13 | 125 => 19 | 257 => 18 | 128 => 32 | 129 => 33 | 294 => 23 | 295 => 24 | 296 => 25 | 297 => 26 | 298 => 27 | 299 => 28 | 216 => 29 | 300 => 30 | 301 => 31 | 328 => 40 | 329 => 41 | 330 => 42 | 331 => 43 | 332 => 44 | 215 => 45 | 343 => 50 | n => n, fun | 28 => 29 | 3 => 3 | 46 => 46 | 0 => 0 | 51 => 57 | 53 => 59 | 4 => 4 | 183 => 50 | 182 => 49 | 131 => 23 | 5 => 5 | 9 => 9 | 218 => 67 | 222 => 71 | 228 => 80 | 229 => 81 | n => n, fun | n => n⟩
theorem Tryd.lays189 : Go.Proofs.Lays.n189 Tryd.prog Tryd.lays189_ren := {
  mixed := by kernel_rfl
  f125 := Tryd.func19.trans (congrArg some (by kernel_rfl))
  f128 := Tryd.func32.trans (congrArg some (by kernel_rfl))
  f129 := Tryd.func33.trans (congrArg some (by kernel_rfl))
  f189 := Tryd.func13.trans (congrArg some (by kernel_rfl))
  f215 := Tryd.func45.trans (congrArg some (by kernel_rfl))
  f216 := Tryd.func29.trans (congrArg some (by kernel_rfl))
  f257 := Tryd.func18.trans (congrArg some (by kernel_rfl))
  f294 := Tryd.func23.trans (congrArg some (by kernel_rfl))
  f295 := Tryd.func24.trans (congrArg some (by kernel_rfl))
  f296 := Tryd.func25.trans (congrArg some (by kernel_rfl))
  f297 := Tryd.func26.trans (congrArg some (by kernel_rfl))
  f298 := Tryd.func27.trans (congrArg some (by kernel_rfl))
  f299 := Tryd.func28.trans (congrArg some (by kernel_rfl))
  f300 := Tryd.func30.trans (congrArg some (by kernel_rfl))
  f301 := Tryd.func31.trans (congrArg some (by kernel_rfl))
  f328 := Tryd.func40.trans (congrArg some (by kernel_rfl))
  f329 := Tryd.func41.trans (congrArg some (by kernel_rfl))
  f330 := Tryd.func42.trans (congrArg some (by kernel_rfl))
  f331 := Tryd.func43.trans (congrArg some (by kernel_rfl))
  f332 := Tryd.func44.trans (congrArg some (by kernel_rfl))
  f343 := Tryd.func50.trans (congrArg some (by kernel_rfl))
  t0 := Tryd.underlying0
  a0 := Tryd.isAgg0
  z0 := Tryd.sizeOf0
  v0 := Tryd.zeroValue0
  t3 := Tryd.underlying3
  a3 := Tryd.isAgg3
  z3 := Tryd.sizeOf3
  v3 := Tryd.zeroValue3
  t4 := Tryd.underlying4
  a4 := Tryd.isAgg4
  z4 := Tryd.sizeOf4
  v4 := Tryd.zeroValue4
  t5 := Tryd.underlying5
  a5 := Tryd.isAgg5
  z5 := Tryd.sizeOf5
  v5 := Tryd.zeroValue5
  t9 := Tryd.underlying9
  a9 := Tryd.isAgg9
  z9 := Tryd.sizeOf9
  v9 := Tryd.zeroValue9
  t28 := Tryd.underlying29
  a28 := Tryd.isAgg29
  z28 := Tryd.sizeOf29
  v28 := Tryd.zeroValue29
  t46 := Tryd.underlying46
  a46 := Tryd.isAgg46
  z46 := Tryd.sizeOf46
  v46 := Tryd.zeroValue46
  t51 := Tryd.underlying57
  a51 := Tryd.isAgg57
  z51 := Tryd.sizeOf57
  v51 := Tryd.zeroValue57
  t53 := Tryd.underlying59
  a53 := Tryd.isAgg59
  z53 := Tryd.sizeOf59
  v53 := Tryd.zeroValue59
  t131 := Tryd.underlying23
  a131 := Tryd.isAgg23
  z131 := Tryd.sizeOf23
  v131 := Tryd.zeroValue23
  t182 := Tryd.underlying49
  a182 := Tryd.isAgg49
  z182 := Tryd.sizeOf49
  v182 := Tryd.zeroValue49
  t183 := Tryd.underlying50
  a183 := Tryd.isAgg50
  z183 := Tryd.sizeOf50
  v183 := Tryd.zeroValue50
  t218 := Tryd.underlying67
  a218 := Tryd.isAgg67
  z218 := Tryd.sizeOf67
  v218 := Tryd.zeroValue67
  t222 := Tryd.underlying71
  a222 := Tryd.isAgg71
  z222 := Tryd.sizeOf71
  v222 := Tryd.zeroValue71
  t228 := Tryd.underlying80
  a228 := Tryd.isAgg80
  z228 := Tryd.sizeOf80
  v228 := Tryd.zeroValue80
  t229 := Tryd.underlying81
  a229 := Tryd.isAgg81
  z229 := Tryd.sizeOf81
  v229 := Tryd.zeroValue81 }
open Go.Sort Go.RowKit in
theorem Tryd.slices_Sort_int (blk off cap : Nat) (zs : List Int) (w : World) (hH : Holds (Value.int .i64) w blk off zs.toArray) (hblk : blk < w.heap.size) (hsz : zs.length < 4611686018427387904) :
    Calls Tryd.prog 13 #[.slice (some ⟨blk, off, none⟩) zs.length cap] w fun e w' =>
      e = .returned (.tuple #[]) ∧ ∃ n os, w' = grow (putRow (Value.int .i64) (Sort.ahead w n) blk off (zs.mergeSort fun x y => decide (x ≤ y)).toArray) os := Any.slices_Sort_int Tryd.lays189 blk off cap zs w hH hblk hsz
open Go.RowKit Go.Sort in
theorem Tryd.slices_Sort_int_none (p : Option Addr) (cap : Nat) (w : World) :
    Calls Tryd.prog 13 #[.slice p 0 cap] w fun e w' => e = .returned (.tuple #[]) ∧ w' = w := Any.slices_Sort_int_none Tryd.lays189 p cap w

end Go.Proofs
