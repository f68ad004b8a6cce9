/- The marks that a law writes into an answer of WeatherS, and the look whether they still stand there. -/
import Derived.Test.YtlfmadnhjleofaaZC
namespace Go.Proofs.Ytlfmadnhjleofaa
open Go.RowKit
set_option linter.unusedVariables false



end Go.Proofs.Ytlfmadnhjleofaa
