
/- cache.fill. -/
import Derived.Test.YtncikcllhjhjmaaDoorBc6
namespace Go.Proofs.YtncikcllhjhjmaaDoor
open Go.RowKit Go.Sort Go.WideMaps Go.Maps Go.WideShapes Go.WideElems Go.MapKept Go.ChangeMaps
attribute [local go_sem] Oper.semAt_some

theorem EX.nums {S : Nat → Prop} {w w' : World} {k : IntKind} {ad : Option Addr} {len : Nat} {l : List Int} (h : EX S w w') (hb : Nums w k ad len l) (hn : ∀ x, ad = some x → ¬ S x.block) : Nums w' k ad len l :=
  ⟨hb.hlen, fun i hi => by
    obtain ⟨g, off, e, hc⟩ := hb.cell i hi
    exact ⟨g, off, e, h.cell hc (show ¬ S g from hn _ e)⟩⟩
end Go.Proofs.YtncikcllhjhjmaaDoor
