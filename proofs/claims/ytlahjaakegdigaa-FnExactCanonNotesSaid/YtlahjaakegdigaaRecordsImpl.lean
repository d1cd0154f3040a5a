/-
  Records: the program's functions, together.
-/
import Derived.Test.YtlahjaakegdigaaApplyImpl
set_option linter.unusedVariables false
namespace Go.Proofs.Ytlahjaakegdigaa
end Go.Proofs.Ytlahjaakegdigaa
