/-
  Fields: the program's TeamOk (TRIAL: of an implementation of our own, before the developers' landed).
-/
import Derived.Test.YtlahjaakegdigaaField
set_option linter.unusedVariables false
namespace Go.Proofs.Ytlahjaakegdigaa
open Go.RowKit

end Go.Proofs.Ytlahjaakegdigaa
