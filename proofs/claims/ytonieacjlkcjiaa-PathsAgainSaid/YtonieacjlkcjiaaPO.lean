/- The seat's closed facts that every law's frame asks. -/
import Derived.Test.YtonieacjlkcjiaaRows
import Derived.Test.YtonieacjlkcjiaaF
import Derived.Test.YtonieacjlkcjiaaO5
namespace Go.Proofs.Ytonieacjlkcjiaa
theorem own : ownKnob Try.prog.godebug = none := by kernel_rfl
theorem laidOut : laidOutB Try.prog = true := by kernel_rfl
end Go.Proofs.Ytonieacjlkcjiaa
