/- A list of the call's own, sorted. No program is named. cache.Slots: the list is sorted. -/
import Derived.Test.YtdjpjfdeeelijaaGreatDoorKA
import Derived.Shelf.SlSortCmp.WholeK
import Derived.Test.YtdjpjfdeeelijaaGreatDoorKB2
import Derived.Test.YtdjpjfdeeelijaaGreatDoorW05
import Derived.Test.YtdjpjfdeeelijaaGreatDoorSort
namespace Go.Proofs.YtdjpjfdeeelijaaGreatDoor
open Go.RowKit Go.Sort Go.Shelf
open Go.Lib Go.WideMaps Go.Maps Go.WideShapes Go.WideElems Go.MapKept Go.ChangeMaps
attribute [local go_sem] Oper.semAt_some
instance:Inhabited SLO:=⟨⟨0,0,0,0⟩⟩
def slC (x:SLO):List Value:=[.int .i64 x.i,.int .i64 x.p,.int .i64 x.f]
theorem slC_one (x:SLO):∀ v∈slC x,v.oneCell'=true:=by
 intro v hv
 simp [slC] at hv
 rcases hv with rfl|rfl|rfl <;> rfl
end Go.Proofs.YtdjpjfdeeelijaaGreatDoor
