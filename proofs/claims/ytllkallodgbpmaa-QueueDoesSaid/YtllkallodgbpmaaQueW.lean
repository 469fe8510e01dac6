/- The law QueueDoes. -/
import Derived.Test.YtllkallodgbpmaaQrI
import Derived.Test.YtllkallodgbpmaaQrJ
set_option linter.unusedSimpArgs false
set_option linter.unusedVariables false
namespace Go.Proofs.Ytllkallodgbpmaa
open Go.ChangeShapes Go.WideShapes Go.ChangeAt Go.RowKit Go.Base Go.Que

theorem law_does (A : Option Addr) (l : List (Nat → Int)) (n c : Nat) (w : World) (hl : IRows w A 3 l) (hn : l.length = n) (hm : n ≤ maxLen) :
    Calls Try.prog 3 #[.slice A n c] w fun e w' => e = .returned (.bool true) ∧ Below w.heap.size w w' :=
  law_does_of (fun w P q x k V h => looks_true w P q x k V h) A l n c w hl hn hm
end Go.Proofs.Ytllkallodgbpmaa
