/- vfs: the root; a node out of an entry. -/
import Derived.Test.YtgclemicgcbpjaaF6
import Derived.Maps.AppendAt
import Derived.Laws.AppendOwnNone
namespace Go.Proofs.Ytgclemicgcbpjaa
open Go.RowKit Go.Sort

theorem Row.nine {w : World} {g : Nat} {E : TypeId} {a b c d e f i j k : Value} (h : Row w g E [a, b, c, d, e, f, i, j, k]) : (w.cell? ⟨g, 0, none⟩ = some a ∧ w.cell? ⟨g, 1, none⟩ = some b ∧ w.cell? ⟨g, 2, none⟩ = some c ∧ w.cell? ⟨g, 3, none⟩ = some d ∧ w.cell? ⟨g, 4, none⟩ = some e) ∧ w.cell? ⟨g, 5, none⟩ = some f ∧ w.cell? ⟨g, 6, none⟩ = some i ∧ w.cell? ⟨g, 7, none⟩ = some j ∧ w.cell? ⟨g, 8, none⟩ = some k :=
  ⟨⟨h.cell 0 (by simp), h.cell 1 (by simp), h.cell 2 (by simp), h.cell 3 (by simp), h.cell 4 (by simp)⟩, h.cell 5 (by simp), h.cell 6 (by simp), h.cell 7 (by simp), h.cell 8 (by simp)⟩

set_option maxHeartbeats 2000000 in
theorem newRoot_any (w : World) :
    Calls Try.prog 39 #[] w fun e w' => e = .returned (.pointer (some ⟨w.heap.size + 2, 0, none⟩)) ∧ Row w' (w.heap.size + 2) 98 [.int .i64 0, .string (ba [47]), .pointer (some ⟨w.heap.size + 2, 0, none⟩), .int .u8 2, .int .u16 493, .int .u32 0, .int .u32 0, .int .i64 0, .map (some (w.heap.size + 1))] ∧ NMap w' (w.heap.size + 1) [] ∧ Below w.heap.size w w' ∧ w'.heap.size = w.heap.size + 3 := by
  have hmm := @run_makeMap Try.prog
  have HB1 := hid (show Below w.heap.size w (w.alloc (.cells #[.int .u8 2, .int .u16 493, .int .u32 0, .int .u32 0, .int .i64 0] 37)) from bal _)
  have HM := hid (NMap.made (w.alloc (.cells #[.int .u8 2, .int .u16 493, .int .u32 0, .int .u32 0, .int .i64 0] 37)))
  have HB2 := hid (HB1.out.alloc (by simp) (.map #[] 0))
  go_enter Try.func39, Try.ntmps39
  go_wp2_with fail
  go_ret
  have hrow := Row.new ((w.alloc (.cells #[.int .u8 2, .int .u16 493, .int .u32 0, .int .u32 0, .int .i64 0] 37)).alloc (.map #[] 0)) 98 [.int .i64 0, .string (ba [47]), .pointer (some ⟨w.heap.size + 2, 0, none⟩), .int .u8 2, .int .u16 493, .int .u32 0, .int .u32 0, .int .i64 0, .map (some (w.heap.size + 1))]
  simp only [World.size_alloc] at hrow
  refine ⟨rfl, hrow, ?_, ?_, ?_⟩
  · have := HM.out.below ((bal _ : Below _ _ ((((w.alloc (.cells #[.int .u8 2, .int .u16 493, .int .u32 0, .int .u32 0, .int .i64 0] 37)).alloc (.map #[] 0))).alloc (.cells #[.int .i64 0, .string (ba [47]), .pointer (some ⟨w.heap.size + 2, 0, none⟩), .int .u8 2, .int .u16 493, .int .u32 0, .int .u32 0, .int .i64 0, .map (some (w.heap.size + 1))] 98))))
    rw [World.size_alloc] at this
    exact this
  · exact HB2.out.alloc (by simp; omega) _
  · simp
end Go.Proofs.Ytgclemicgcbpjaa
