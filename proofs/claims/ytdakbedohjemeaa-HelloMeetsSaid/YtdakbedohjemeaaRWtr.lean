/-
  The document's own Two and Text (narthexref2): what they write behind whatever was written. Chapter 2's runs: the closed call 'known' of the statements returns true.
-/
import Derived.Test.YtdakbedohjemeaaMq6
import Derived.Test.YtdakbedohjemeaaMq7
import Derived.Test.YtdakbedohjemeaaMq18
namespace Go.Proofs.Ytdakbedohjemeaa
set_option linter.unusedVariables false
open Go.RowKit
end Go.Proofs.Ytdakbedohjemeaa
