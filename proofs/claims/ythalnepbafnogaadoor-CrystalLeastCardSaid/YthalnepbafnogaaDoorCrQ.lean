/- The law CrystalLeast. -/
import Derived.Test.YthalnepbafnogaaDoorCrM
import Derived.Test.YthalnepbafnogaaDoorCrN
import Derived.Test.YthalnepbafnogaaDoorCrO
namespace Go.Proofs.YthalnepbafnogaaDoor.Cr
open Go.ChangeShapes Go.WideShapes Go.ChangeAt Go.RowKit Own Ro

theorem least_any (f x a b : Int) (w : World) (h : Tb w) : Calls Tryd.prog 7 #[.int .i64 f, .int .i64 x, .int .i64 a, .int .i64 b] w (fun e w' => e = .returned (.bool true) ∧ Below w.heap.size w w') := by
  by_cases hd : (divide f x).2 = 0
  · by_cases h1 : (divide f x).1 = 1
    · exact least_one f x a b w h hd h1
    · exact least_more f x a b w h hd h1
  · exact least_none f x a b w h hd
end Go.Proofs.YthalnepbafnogaaDoor.Cr
