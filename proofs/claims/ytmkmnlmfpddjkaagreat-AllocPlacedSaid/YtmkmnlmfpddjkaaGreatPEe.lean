/-
  The law's Same. Conditions: those that stand in each theorem.
-/
import Derived.BigQuiet
import Derived.Test.YtmkmnlmfpddjkaaGreatPG18
import Derived.Test.YtmkmnlmfpddjkaaGreatPG20
import Derived.Test.YtmkmnlmfpddjkaaGreatPG16
import Derived.Test.YtmkmnlmfpddjkaaGreatPG8
namespace Go.Proofs.YtmkmnlmfpddjkaaGreat
set_option linter.unusedVariables false
set_option linter.unusedSimpArgs false
open Go.RowKit Go.Deep Go.Maps

section
variable {w w' : World} {b : HB} {d : DB} {m : HM} {q p : Nat}
end
end Go.Proofs.YtmkmnlmfpddjkaaGreat
