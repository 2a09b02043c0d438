/-
  No statement: the contracts of sameAttr, SameAttrs and Same of package row.
-/
import Derived.Test.YtpdobbdbmgeoiaaWCheck
import Derived.Test.YtpdobbdbmgeoiaaSCmp
namespace Go.Proofs.Ytpdobbdbmgeoiaa
open Go.RowKit

/-- Are two attributes alike? -/
def sameAD (x y : AD) : Bool := (x.m.toList == y.m.toList) && decide (cmpV x.k x.n x.s x.len x.z y.k y.n y.s y.len y.z = 0)

/-- Are attributes alike? -/
def sameAs : List AD → List AD → Bool
  | x :: r, y :: s => sameAD x y && sameAs r s
  | _, _ => true

/-- Are rows alike? -/
def sameR (x y : RD) : Bool := (x.key.toList == y.key.toList) && (decide (cmpSt x.t x.i x.q x.o y.t y.i y.q y.o = 0) && (decide (x.len = y.len) && sameAs (fromA x.A x.len 0) (fromA y.A y.len 0)))

/-- Are attributes alike, as many as there are? -/
def sameL (n1 n2 : Nat) (A1 A2 : Nat → AD) : Bool := decide (n1 = n2) && sameAs (fromA A1 n1 0) (fromA A2 n2 0)

end Go.Proofs.Ytpdobbdbmgeoiaa
