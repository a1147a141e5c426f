
/- hostelref00.CopyTexts. -/
import Derived.Test.YthamfhenadaapaaDoorYJ
namespace Go.Proofs.YthamfhenadaapaaDoor
open Go.RowKit Go.Sort

theorem cel_str {w : World} {a : Option Addr} {len : Nat} {ds : List BL} (h : Cel w a len (strs ds)) : ds.length = len ∧ (0 < ds.length → ∃ b off, a = some ⟨b, off, none⟩ ∧ ∀ i (hi : i < ds.length), w.cell? ⟨b, off + i, none⟩ = some (.string (ba ds[i]))) := by
  refine ⟨by simpa [strs] using h.hlen, fun hp => ?_⟩
  obtain ⟨b, off, e, hc⟩ := h.some_of (by simpa [strs] using hp)
  exact ⟨b, off, e, fun i hi => strs_at hc hi⟩

end Go.Proofs.YthamfhenadaapaaDoor
