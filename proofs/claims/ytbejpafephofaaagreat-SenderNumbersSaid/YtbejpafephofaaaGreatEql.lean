/-
  Whether rows of bytes as strings, and arrays of eight bytes, are the same.
-/
import Derived.Test.YtbejpafephofaaaGreatMq15
import Derived.Test.YtbejpafephofaaaGreatMq11
import Derived.ChangeKeysEq
namespace Go.Proofs.YtbejpafephofaaaGreat
set_option linter.unusedVariables false
open Go.RowKit
def cidB (m m' : FN) : Bool := m.c0 == m'.c0 && (m.c1 == m'.c1 && (m.c2 == m'.c2 && (m.c3 == m'.c3 && (m.c4 == m'.c4 && (m.c5 == m'.c5 && (m.c6 == m'.c6 && m.c7 == m'.c7))))))
end Go.Proofs.YtbejpafephofaaaGreat
