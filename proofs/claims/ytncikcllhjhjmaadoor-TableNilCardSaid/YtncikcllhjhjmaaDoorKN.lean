
/- Merged: FD FW FN. -/
import Derived.Test.YtncikcllhjhjmaaDoorFC
import Derived.Test.YtncikcllhjhjmaaDoorVOm
import Derived.Test.YtncikcllhjhjmaaDoorKO
namespace Go.Proofs.YtncikcllhjhjmaaDoor
open Go.RowKit Go.Sort

def rdB (l : BL) (off n : Int) : BL := (l.drop off.toNat).take n.toNat
def ReadPost (w : World) (l : BL) (e : Ending) (w' : World) : Prop := ∃ v, e = .returned (.tuple #[v, .int .i64 0]) ∧ w'.ownsRow w.heap.size 5 1 v l.length (l.map B8) ∧ Below w.heap.size w w'

theorem add_zero_addr (a : Option Addr) : a.map (·.add 0) = a := by cases a <;> simp [Addr.add]
theorem from_slice (av : Option Addr) (len cv f : Nat) (x : Int) (hx : x = (f : Int)) (hf : f ≤ len) (hcv : len ≤ cv) : ∃ a2, (∀ w, (Instr.slice 111 (.slice av len cv) (some (.int .i64 x)) none none).run Tryd.prog w = .ok (.slice a2 (len - f) (cv - f)) w) ∧ (a2 = none → av = none) ∧ ∀ w cs, Cel w av len cs → Cel w a2 (len - f) (cs.drop f) := by
  subst hx
  have hz : ∀ w, (sizeOf (Tryd.prog.elem 111)).run Tryd.prog w = .ok 1 w := fun w => by kernel_rfl
  refine ⟨if cv = f then av else av.map (·.add (f * 1)), fun w => ?_, fun h => ?_, fun w cs h => ?_⟩
  · rw [run_slice_l w 111 _ _ _ (by kernel_rfl) .i64 f (by omega) (by omega), hz]
    simp only [Result.andThen, sliced, Int.toNat_natCast]
  · split at h
    · exact h
    · cases av with
      | none => rfl
      | some a => cases h
  · have hl := h.hlen
    refine ⟨by simp; omega, fun i hi => ?_⟩
    have hi' : f + i < cs.length := by simp at hi; omega
    obtain ⟨b, o, rfl, hc⟩ := h.cell (f + i) hi'
    rw [if_neg (by omega)]
    refine ⟨b, o + f, ?_, ?_⟩
    · simp only [Option.map_some, Addr.add, Nat.mul_one]
      split
      · rename_i h0; rw [h0]; rfl
      · rfl
    · rw [show o + f + i = o + (f + i) by omega, hc]
      simp
theorem to_slice (av : Option Addr) (len cv m : Nat) (x : Int) (hx : x = (m : Int)) (hm : m ≤ len) (hcv : len ≤ cv) (w : World) : (Instr.slice 111 (.slice av len cv) none (some (.int .i64 x)) none).run Tryd.prog w = .ok (.slice av m cv) w := by
  subst hx
  have hz : ∀ w, (sizeOf (Tryd.prog.elem 111)).run Tryd.prog w = .ok 1 w := fun w => by kernel_rfl
  rw [run_slice_h w 111 _ _ _ (by kernel_rfl) .i64 m (by omega) (by omega), hz]
  simp only [Result.andThen, sliced, Int.toNat_natCast, Nat.zero_mul, add_zero_addr, Nat.sub_zero]
  split <;> rfl

end Go.Proofs.YtncikcllhjhjmaaDoor
namespace Go.Proofs.YtncikcllhjhjmaaDoor
open Go.RowKit Go.Sort

theorem Row.rk {w : World} {g : Nat} {E : TypeId} {k : Nat} {rows : List (List Value)} (h : Row w g E rows.flatten) (hk : ∀ r ∈ rows, r.length = k) : Rk w k (some ⟨g, 0, none⟩) rows.length rows := by
  refine ⟨rfl, fun i hi => ⟨hk _ (List.getElem_mem hi), g, 0, rfl, fun j hj => ?_⟩⟩
  have := flat_at hk hi hj
  rw [h.cell', Nat.zero_add, this]
theorem ents_of {w : World} {g : Nat} {xs : List EN} (h : Row w g 113 ((xs.map EN.cs).flatten)) (ho : ∀ x ∈ xs, EnOk w x) : Ents w (some ⟨g, 0, none⟩) xs.length xs := by
  have := h.rk (k := 7) (by intro r hr; obtain ⟨x, _, rfl⟩ := List.mem_map.1 hr; rfl)
  rw [List.length_map] at this
  exact ⟨this, ho⟩
theorem own_byt {w : World} {base n : Nat} {v : Value} {l : List UInt8} (h : w.ownsRow base 5 1 v n (l.map B8)) : ∃ a c, v = .slice a n c ∧ Byt w a n l := by
  obtain ⟨a, c, e, hc, _⟩ := own_cel h
  refine ⟨a, c, e, by have := hc.hlen; simpa using this, fun i hi => ?_⟩
  obtain ⟨b, off, e2, h2⟩ := hc.cell i (by simpa using hi)
  exact ⟨b, off, e2, by rw [h2]; simp [B8]⟩

def xsW (M : Nat) : List EN := [⟨[47, 97], 2, 448, 7, 0, none, 0, [], []⟩, ⟨[47, 97, 47, 102], 1, 420, 0, 0, some ⟨M, 0, none⟩, 3, [1, 2, 3], []⟩, ⟨[47, 108], 3, 0, 0, 0, none, 0, [], [97, 47, 102]⟩]
def LW : List ND := [⟨[47], 0, 2, 493, 0, 0, 0, [([97], 1), ([108], 3)], [], []⟩, ⟨[47, 97], 0, 2, 448, 7, 0, 0, [([102], 2)], [], []⟩, ⟨[47, 97, 47, 102], 1, 1, 420, 0, 0, 3, [], [1, 2, 3], []⟩, ⟨[47, 108], 0, 3, 0, 0, 0, 0, [], [], [97, 47, 102]⟩]
theorem newW (M : Nat) : newE [root0] 0 (xsW M) = (0, 0, LW) := by kernel_rfl
def cW (e : Int) : CR := ⟨0, e, 0, 0, none, 0, 0, []⟩
theorem cW_ok (w : World) (e : Int) : CrOk w (cW e) := ⟨Nums.nil _ _ _, by show 0 ≤ _; omega⟩
theorem follow7 : followL LW (cW 7) true 0 0 [[108]] = (0, 2) := by
  rw [followL_link (nx := 3) (by decide +kernel) (by decide +kernel) (by simp) (by omega)]
  rw [show (if rootF (LW.getD 3 default).to = true then 0 else 0) = 0 by decide +kernel, show partsF (LW.getD 3 default).to ++ [] = [[97], [102]] by decide +kernel]
  rw [followL_step (nx := 1) (by decide +kernel) (.inl (by decide +kernel)), followL_step (nx := 2) (by decide +kernel) (.inl (by decide +kernel)), followL_nil]
theorem walk7 : walkL LW (cW 7) 0 [108] true = (2, 0) := walkL_ok (st := 0) (nx := 2) ⟨by decide, by decide, by decide⟩ (by decide +kernel) (by decide +kernel) (by rw [show partsF [108] = [[108]] by decide +kernel]; exact follow7) (.inl (by decide +kernel))
theorem follow8 : followL LW (cW 8) true 0 0 [[108]] = (5, 0) := by
  rw [followL_link (nx := 3) (by decide +kernel) (by decide +kernel) (by simp) (by omega)]
  rw [show (if rootF (LW.getD 3 default).to = true then 0 else 0) = 0 by decide +kernel, show partsF (LW.getD 3 default).to ++ [] = [[97], [102]] by decide +kernel]
  rw [followL_step (nx := 1) (by decide +kernel) (.inl (by decide +kernel)), followL_bad (by decide +kernel)]
  decide +kernel
theorem walk8 : walkL LW (cW 8) 0 [108] true = (0, 5) := walkL_bad (st := 0) (nx := 0) ⟨by decide, by decide, by decide⟩ (by decide +kernel) (by decide +kernel) (by rw [show partsF [108] = [[108]] by decide +kernel]; exact follow8) (by decide)

end Go.Proofs.YtncikcllhjhjmaaDoor
namespace Go.Proofs.YtncikcllhjhjmaaDoor
open Go.ChangeShapes Go.WideShapes Go.ChangeAt Go.RowKit Go.Sort

theorem Row.three {w : World} {g : Nat} {E : TypeId} {a b c : Value} (h : Row w g E [a, b, c]) : w.cell? ⟨g, 0, none⟩ = some a ∧ w.cell? ⟨g, 1, none⟩ = some b ∧ w.cell? ⟨g, 2, none⟩ = some c := ⟨h.cell 0 (by simp), h.cell 1 (by simp), h.cell 2 (by simp)⟩
def smallB (len : Nat) (p : ByteArray) : Bool := decide (len ≤ 1024) && decide (p.size ≤ 4096)
theorem meta_eq0 (w : World) : (binOp .eql 105 (.agg #[.int .u8 0, .int .u16 0, .int .u32 0, .int .u32 0, .int .i64 0]) (.agg #[.int .u8 0, .int .u16 0, .int .u32 0, .int .u32 0, .int .i64 0])).run Tryd.prog w = .ok (.bool true) w := by kernel_rfl

theorem reach_is : reachBytes = 140737488351232 := rfl
section
variable {H : Type} {enc : TypeId × Value → H} {w : World} {held : Bool}
theorem leaf_int {P : Program} {sp : Nat → Bool} {m : Nat} {u : TypeId} {k : IntKind} {v : Value} {y : DataW H × List MemPlace} (ht : P.underlying u = some (.int k)) (h : DataW.trod enc P w 0 sp held m u [v] = some y) : ∃ i, v = .int k i ∧ (Lit.int k i).wf = true := by
  obtain ⟨x, e, _, hw⟩ := DataW.trod_int ht h
  simp only [List.cons.injEq, and_true] at e
  exact ⟨x, e, hw⟩
theorem leaf_bool {P : Program} {sp : Nat → Bool} {m : Nat} {u : TypeId} {v : Value} {y : DataW H × List MemPlace} (ht : P.underlying u = some .bool) (h : DataW.trod enc P w 0 sp held m u [v] = some y) : ∃ b, v = .bool b := by
  obtain ⟨x, e, _⟩ := DataW.trod_bool ht h
  simp only [List.cons.injEq, and_true] at e
  exact ⟨x, e⟩
theorem leaf_string {P : Program} {sp : Nat → Bool} {N m : Nat} {u : TypeId} {v : Value} {y : DataW H × List MemPlace} (ht : P.underlying u = some .string) (h : DataW.trod enc P w 0 sp held m u [v] = some y) (hs : Small P N u y.1) : ∃ l : BL, v = .string (ba l) ∧ l.length ≤ N := by
  obtain ⟨s, e, hx, _⟩ := DataW.trod_string ht h
  simp only [List.cons.injEq, and_true] at e
  refine ⟨s.data.toList, e, ?_⟩
  subst hx
  exact hs _ (by simp [DataW.weights])
end
end Go.Proofs.YtncikcllhjhjmaaDoor
