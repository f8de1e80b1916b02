/-
  The words of the language.
-/
import Derived.Test.YtbplkphjjfgkmaaDoorKit
namespace Go.Proofs.YtbplkphjjfgkmaaDoor
namespace Tk
def sm (r : Int) : Bool := decide (97 ≤ r) && decide (r ≤ 122)
def gr (r : Int) : Bool := decide (65 ≤ r) && decide (r ≤ 90)
def dg (r : Int) : Bool := decide (48 ≤ r) && decide (r ≤ 57)
def bl (r : Int) : Bool := (r == 32) || (r == 9) || (r == 10) || (r == 13)
def row (r : Int) : Bool := sm r || gr r || dg r || (r == 95)
def rem (r : Int) : Bool := (r != 10) && (r != -1)
/-- The words of the language. -/
def words : List (List UInt8) := [[97, 116, 116, 114], [117, 115, 101, 114], [114, 111, 108, 101], [115, 116, 97, 103, 101], [105, 110], [101, 118, 101, 110, 116], [98, 121], [115, 101, 116, 115], [109, 97, 120], [111, 110], [105, 102], [103, 117, 97, 114, 100], [109, 105, 108, 101, 115, 116, 111, 110, 101], [111, 102], [102, 105, 110, 97, 108], [115, 111, 100], [97, 110, 100], [111, 114], [110, 111, 116], [105, 109, 112, 108, 105, 101, 115], [111, 112, 101, 110], [100, 111, 110, 101], [99, 97, 110], [100, 105, 100], [99, 111, 109, 112, 108, 101, 116, 101], [115, 116, 117, 99, 107], [116, 114, 117, 101], [102, 97, 108, 115, 101], [105, 100, 108, 101], [108, 111, 111, 112], [65, 88], [69, 88], [65, 70], [69, 70], [65, 71], [69, 71], [65], [69], [85]]
def known (L : List UInt8) : Bool := words.contains L
end Tk
end Go.Proofs.YtbplkphjjfgkmaaDoor
