/- A place; a box on a layer; a cell: as data. -/
import Derived.Test.YtafghanpfnhkpaaDoorShMath
namespace Go.Proofs.YtafghanpfnhkpaaDoor

/-- A place. -/
structure Pl where
  c : ByteArray
  x : Int
  y : Int
  t : Int
  f : Bool
  nx : Int
  ny : Int
  dx : Int
  dy : Int
/-- A box on a layer. -/
structure Lb where
  l : Int
  b : Bx
/-- A cell. -/
structure Cl where
  nm : ByteArray
  bs : List Lb
  ps : List Pl

end Go.Proofs.YtafghanpfnhkpaaDoor
