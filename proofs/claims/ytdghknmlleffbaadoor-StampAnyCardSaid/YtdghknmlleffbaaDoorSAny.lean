/-
  No statement: the walk of StampAny (P301).
-/
import Derived.Test.YtdghknmlleffbaaDoorSAny0
import Derived.Test.YtdghknmlleffbaaDoorSAny1
import Derived.Test.YtdghknmlleffbaaDoorSAny2
import Derived.Test.YtdghknmlleffbaaDoorSAny3
import Derived.Test.YtdghknmlleffbaaDoorSAny4
namespace Go.Proofs.YtdghknmlleffbaaDoor
open Go.RowKit

theorem stampAny_walk (t1 i1 q1 : Int) (o1 : ByteArray) (t2 i2 q2 : Int) (o2 : ByteArray) (_h1 : In64 t1) (_h2 : In64 i1) (_h3 : In64 q1) (hs1 : o1.size ≤ maxLen) (_h4 : In64 t2) (_h5 : In64 i2) (_h6 : In64 q2) (hs2 : o2.size ≤ maxLen) (w : World) (hw : LaidT w) :
    Calls Tryd.prog 5 #[.agg #[.int .i64 t1, .int .i64 i1, .int .i64 q1, .string o1], .agg #[.int .i64 t2, .int .i64 i2, .int .i64 q2, .string o2]] w fun e w' => e = .returned (.bool true) ∧ Below w.heap.size w w' := by
  by_cases h1 : t1 = t2
  · subst h1
    by_cases h2 : i1 = i2
    · subst h2
      by_cases h3 : q1 = q2
      · subst h3
        by_cases h4 : o1 = o2
        · subst h4
          exact stampAny_walk0 _ _ _ _ _h1 _h2 _h3 hs1 _h4 _h5 _h6 hs2 w hw
        · exact stampAny_walk4 _ _ _ _ _ _h1 _h2 _h3 hs1 _h4 _h5 _h6 hs2 h4 w hw
      · exact stampAny_walk3 _ _ _ _ _ _ _h1 _h2 _h3 hs1 _h4 _h5 _h6 hs2 h3 w hw
    · exact stampAny_walk2 _ _ _ _ _ _ _ _h1 _h2 _h3 hs1 _h4 _h5 _h6 hs2 h2 w hw
  · exact stampAny_walk1 _ _ _ _ _ _ _ _ _h1 _h2 _h3 hs1 _h4 _h5 _h6 hs2 h1 w hw

end Go.Proofs.YtdghknmlleffbaaDoor
