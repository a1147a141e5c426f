
/- Merged: FD FW FN. -/
import Derived.Test.YtfaohejdaabalaaGreatDoorFC
import Derived.Test.YtfaohejdaabalaaGreatDoorVOm
import Derived.Test.YtfaohejdaabalaaGreatDoorKO
namespace Go.Proofs.YtfaohejdaabalaaGreatDoor
open Go.RowKit Go.Sort

def rdB (l : BL) (off n : Int) : BL := (l.drop off.toNat).take n.toNat
def ReadPost (w : World) (l : BL) (e : Ending) (w' : World) : Prop := ∃ v, e = .returned (.tuple #[v, .int .i64 0]) ∧ w'.ownsRow w.heap.size 5 1 v l.length (l.map B8) ∧ Below w.heap.size w w'

theorem add_zero_addr (a : Option Addr) : a.map (·.add 0) = a := by cases a <;> simp [Addr.add]
theorem from_slice (av : Option Addr) (len cv f : Nat) (x : Int) (hx : x = (f : Int)) (hf : f ≤ len) (hcv : len ≤ cv) : ∃ a2, (∀ w, (Instr.slice 40 (.slice av len cv) (some (.int .i64 x)) none none).run Tryz.prog w = .ok (.slice a2 (len - f) (cv - f)) w) ∧ (a2 = none → av = none) ∧ ∀ w cs, Cel w av len cs → Cel w a2 (len - f) (cs.drop f) := by
  subst hx
  have hz : ∀ w, (sizeOf (Tryz.prog.elem 40)).run Tryz.prog w = .ok 1 w := fun w => by kernel_rfl
  refine ⟨if cv = f then av else av.map (·.add (f * 1)), fun w => ?_, fun h => ?_, fun w cs h => ?_⟩
  · rw [run_slice_l w 40 _ _ _ (by kernel_rfl) .i64 f (by omega) (by omega), hz]
    simp only [Result.andThen, sliced, Int.toNat_natCast]
  · split at h
    · exact h
    · cases av with
      | none => rfl
      | some a => cases h
  · have hl := h.hlen
    refine ⟨by simp; omega, fun i hi => ?_⟩
    have hi' : f + i < cs.length := by simp at hi; omega
    obtain ⟨b, o, rfl, hc⟩ := h.cell (f + i) hi'
    rw [if_neg (by omega)]
    refine ⟨b, o + f, ?_, ?_⟩
    · simp only [Option.map_some, Addr.add, Nat.mul_one]
      split
      · rename_i h0; rw [h0]; rfl
      · rfl
    · rw [show o + f + i = o + (f + i) by omega, hc]
      simp
theorem to_slice (av : Option Addr) (len cv m : Nat) (x : Int) (hx : x = (m : Int)) (hm : m ≤ len) (hcv : len ≤ cv) (w : World) : (Instr.slice 40 (.slice av len cv) none (some (.int .i64 x)) none).run Tryz.prog w = .ok (.slice av m cv) w := by
  subst hx
  have hz : ∀ w, (sizeOf (Tryz.prog.elem 40)).run Tryz.prog w = .ok 1 w := fun w => by kernel_rfl
  rw [run_slice_h w 40 _ _ _ (by kernel_rfl) .i64 m (by omega) (by omega), hz]
  simp only [Result.andThen, sliced, Int.toNat_natCast, Nat.zero_mul, add_zero_addr, Nat.sub_zero]
  split <;> rfl

set_option maxRecDepth 100000 in
set_option maxHeartbeats 4000000 in
theorem read_file (F : Nat) (t : FT) (i : Nat) (off n : Int) (w : World) (h : FSat w F t) (hi : i < t.L.length) (hk2 : ¬ (t.nd i).kind = 2) (hk3 : ¬ (t.nd i).kind = 3) (ho : 0 ≤ off) (hn : 0 ≤ n) :
    Calls Tryz.prog 44 #[.pointer (some ⟨F, 0, none⟩), .int .i64 i, .int .i64 off, .int .i64 n] w (ReadPost w (rdB (t.nd i).data off n)) := by
  obtain ⟨v, hr, hv⟩ := (h.node i hi).file hk2 hk3
  obtain ⟨_, _, _, _, k8⟩ := hd_cells hr
  have hl := hr.lt
  have HN := hid (node_in F t i w h hi)
  have hd := (h.fine.data i hi).1
  have hta := ta_ff (t.bk i)
  have d0 : decide (off < 0) = false := by simpa using ho
  have d1 : decide (n < 0) = false := by simpa using hn
  obtain ⟨av, cv, rfl, hc, hnil, hcv, hcm⟩ := own_cel hv
  generalize hdd : (t.nd i).data = data at *
  have hd2 : data.length ≤ 65536 := by rw [← hdd]; exact hd
  have HC := hid hc
  clear hr h hv hd hdd hc

  go_enter Tryz.func44, Tryz.ntmps44
  go_wp2_with fail
  refine (HN.out).mono ?_
  rintro e' w1 ⟨rfl, rfl⟩
  rw [if_neg hk2, if_neg hk3]
  have hid9 := isDir_any (t.nd i).kind (t.bk i) w
  rw [ndV_kind, if_neg hk2, if_neg hk3, decide_eq_false hk2] at hid9
  have HID := hid hid9
  clear hid9 hk2 hk3
  go_wp2_with fail
  refine (HID.out).mono ?_
  rintro e' w1 ⟨rfl, rfl⟩
  obtain ⟨f, hf⟩ : ∃ f : Nat, (f : Int) = min off (data.length : Int) := ⟨(min off (data.length : Int)).toNat, by omega⟩
  have hfl : f ≤ data.length := by omega
  have hfo : data.drop f = data.drop off.toNat := by
    by_cases h9 : off ≤ (data.length : Int)
    · congr 1; omega
    · rw [List.drop_eq_nil_of_le (by omega), List.drop_eq_nil_of_le (by omega)]
  obtain ⟨a2, hs1, ha2, hcel2⟩ := from_slice av data.length cv f (min off (data.length : Int)) hf.symm hfl hcv
  have HC2 := hid (hcel2 w _ HC.out)
  obtain ⟨L2, hL2⟩ : ∃ L2, L2 = data.length - f := ⟨_, rfl⟩
  obtain ⟨m, hm⟩ : ∃ m : Nat, (m : Int) = min n (L2 : Int) := ⟨(min n (L2 : Int)).toNat, by omega⟩
  have hml : m ≤ L2 := by omega
  have hs2 := to_slice a2 L2 (cv - f) m (min n (L2 : Int)) hm.symm hml (by omega)
  have hrd : rdB data off n = (data.drop f).take m := by
    unfold rdB
    rw [← hfo]
    by_cases h9 : n ≤ (L2 : Int)
    · congr 1; omega
    · rw [List.take_of_length_le (by simp; omega), List.take_of_length_le (by simp; omega)]
  have hlm : (rdB data off n).length = m := by rw [hrd]; simp; omega
  rw [← hL2] at hs1 HC2
  have HN1 := hid (show ((rdB data off n).map B8).length = m * 1 by rw [List.length_map, hlm]; omega)
  have hc3 : Cel w a2 m ((rdB data off n).map B8) := by
    have := HC2.out.prefix hml
    rw [← List.map_drop, ← List.map_take, ← hrd] at this
    exact this
  have HN2 := hid (show ∀ ad, a2 = some ad → ∀ j u, ((rdB data off n).map B8)[j]? = some u → w.cell? (ad.add j) = some u by rintro ad rfl; exact hc3.news)
  have HN3 := hid (show a2 = none → m = 0 ∧ cv - f = 0 by
    intro e
    have h1 := ha2 e
    have h2 := hnil h1
    omega)
  have HN4 := hid (b8_one (rdB data off n))
  have HN5 := hid (show m ≤ maxLen by unfold maxLen; omega)
  have HN6 := hid (show m * 1 ≤ 140737488355328 by omega)
  have HLM := hid hlm
  obtain ⟨i0, hi0, hz0, hz1, hz2⟩ := info_parts infoU8
  clear hf hfl hfo ha2 hcel2 hL2 hm hml hrd hlm hc3 hnil hcv hcm ho hn
  go_wp2_with (at_builtin; go_must (refine wpList_append_nil rfl _ _ 40 rfl 5 i0 (.int .u8 0) 1 1 Tryz.underlying40 hi0 hz0 hz1 hz2 rfl (by decide) rfl a2 m (cv - f) rfl ((rdB data off n).map B8) HN1.out HN2.out HN3.out HN4.out HN5.out HN6.out ?_; intro v2 w2 hown hgrow; have HO := hid hown; have HG := hid hgrow; clear hown hgrow))
  go_ret2
  exact ⟨v2, rfl, by rw [HLM.out]; exact HO.out, (Below.refl _ w).grown HG.out (Nat.le_refl _) (fun k e => by cases e)⟩
end Go.Proofs.YtfaohejdaabalaaGreatDoor
namespace Go.Proofs.YtfaohejdaabalaaGreatDoor
open Go.RowKit Go.Sort

theorem Row.rk {w : World} {g : Nat} {E : TypeId} {k : Nat} {rows : List (List Value)} (h : Row w g E rows.flatten) (hk : ∀ r ∈ rows, r.length = k) : Rk w k (some ⟨g, 0, none⟩) rows.length rows := by
  refine ⟨rfl, fun i hi => ⟨hk _ (List.getElem_mem hi), g, 0, rfl, fun j hj => ?_⟩⟩
  have := flat_at hk hi hj
  rw [h.cell', Nat.zero_add, this]
theorem ents_of {w : World} {g : Nat} {xs : List EN} (h : Row w g 43 ((xs.map EN.cs).flatten)) (ho : ∀ x ∈ xs, EnOk w x) : Ents w (some ⟨g, 0, none⟩) xs.length xs := by
  have := h.rk (k := 7) (by intro r hr; obtain ⟨x, _, rfl⟩ := List.mem_map.1 hr; rfl)
  rw [List.length_map] at this
  exact ⟨this, ho⟩
theorem own_byt {w : World} {base n : Nat} {v : Value} {l : List UInt8} (h : w.ownsRow base 5 1 v n (l.map B8)) : ∃ a c, v = .slice a n c ∧ Byt w a n l := by
  obtain ⟨a, c, e, hc, _⟩ := own_cel h
  refine ⟨a, c, e, by have := hc.hlen; simpa using this, fun i hi => ?_⟩
  obtain ⟨b, off, e2, h2⟩ := hc.cell i (by simpa using hi)
  exact ⟨b, off, e2, by rw [h2]; simp [B8]⟩

def xsW (M : Nat) : List EN := [⟨[47, 97], 2, 448, 7, 0, none, 0, [], []⟩, ⟨[47, 97, 47, 102], 1, 420, 0, 0, some ⟨M, 0, none⟩, 3, [1, 2, 3], []⟩, ⟨[47, 108], 3, 0, 0, 0, none, 0, [], [97, 47, 102]⟩]
def LW : List ND := [⟨[47], 0, 2, 493, 0, 0, 0, [([97], 1), ([108], 3)], [], []⟩, ⟨[47, 97], 0, 2, 448, 7, 0, 0, [([102], 2)], [], []⟩, ⟨[47, 97, 47, 102], 1, 1, 420, 0, 0, 3, [], [1, 2, 3], []⟩, ⟨[47, 108], 0, 3, 0, 0, 0, 0, [], [], [97, 47, 102]⟩]
theorem newW (M : Nat) : newE [root0] 0 (xsW M) = (0, 0, LW) := by kernel_rfl
def cW (e : Int) : CR := ⟨0, e, 0, 0, none, 0, 0, []⟩
theorem cW_ok (w : World) (e : Int) : CrOk w (cW e) := ⟨Nums.nil _ _ _, by show 0 ≤ _; omega⟩
theorem follow7 : followL LW (cW 7) true 0 0 [[108]] = (0, 2) := by
  rw [followL_link (nx := 3) (by decide +kernel) (by decide +kernel) (by simp) (by omega)]
  rw [show (if rootF (LW.getD 3 default).to = true then 0 else 0) = 0 by decide +kernel, show partsF (LW.getD 3 default).to ++ [] = [[97], [102]] by decide +kernel]
  rw [followL_step (nx := 1) (by decide +kernel) (.inl (by decide +kernel)), followL_step (nx := 2) (by decide +kernel) (.inl (by decide +kernel)), followL_nil]
theorem walk7 : walkL LW (cW 7) 0 [108] true = (2, 0) := walkL_ok (st := 0) (nx := 2) ⟨by decide, by decide, by decide⟩ (by decide +kernel) (by decide +kernel) (by rw [show partsF [108] = [[108]] by decide +kernel]; exact follow7) (.inl (by decide +kernel))
theorem follow8 : followL LW (cW 8) true 0 0 [[108]] = (5, 0) := by
  rw [followL_link (nx := 3) (by decide +kernel) (by decide +kernel) (by simp) (by omega)]
  rw [show (if rootF (LW.getD 3 default).to = true then 0 else 0) = 0 by decide +kernel, show partsF (LW.getD 3 default).to ++ [] = [[97], [102]] by decide +kernel]
  rw [followL_step (nx := 1) (by decide +kernel) (.inl (by decide +kernel)), followL_bad (by decide +kernel)]
  decide +kernel
theorem walk8 : walkL LW (cW 8) 0 [108] true = (0, 5) := walkL_bad (st := 0) (nx := 0) ⟨by decide, by decide, by decide⟩ (by decide +kernel) (by decide +kernel) (by rw [show partsF [108] = [[108]] by decide +kernel]; exact follow8) (by decide)

end Go.Proofs.YtfaohejdaabalaaGreatDoor
namespace Go.Proofs.YtfaohejdaabalaaGreatDoor
open Go.ChangeShapes Go.WideShapes Go.ChangeAt Go.RowKit Go.Sort

theorem Row.three {w : World} {g : Nat} {E : TypeId} {a b c : Value} (h : Row w g E [a, b, c]) : w.cell? ⟨g, 0, none⟩ = some a ∧ w.cell? ⟨g, 1, none⟩ = some b ∧ w.cell? ⟨g, 2, none⟩ = some c := ⟨h.cell 0 (by simp), h.cell 1 (by simp), h.cell 2 (by simp)⟩
def smallB (len : Nat) (p : ByteArray) : Bool := decide (len ≤ 1024) && decide (p.size ≤ 4096)
theorem meta_eq0 (w : World) : (binOp .eql 89 (.agg #[.int .u8 0, .int .u16 0, .int .u32 0, .int .u32 0, .int .i64 0]) (.agg #[.int .u8 0, .int .u16 0, .int .u32 0, .int .u32 0, .int .i64 0])).run Tryz.prog w = .ok (.bool true) w := by kernel_rfl

theorem reach_is : reachBytes = 140737488351232 := rfl
section
variable {H : Type} {enc : TypeId × Value → H} {w : World} {held : Bool}
theorem leaf_int {P : Program} {sp : Nat → Bool} {m : Nat} {u : TypeId} {k : IntKind} {v : Value} {y : DataW H × List MemPlace} (ht : P.underlying u = some (.int k)) (h : DataW.trod enc P w 0 sp held m u [v] = some y) : ∃ i, v = .int k i ∧ (Lit.int k i).wf = true := by
  obtain ⟨x, e, _, hw⟩ := DataW.trod_int ht h
  simp only [List.cons.injEq, and_true] at e
  exact ⟨x, e, hw⟩
theorem leaf_bool {P : Program} {sp : Nat → Bool} {m : Nat} {u : TypeId} {v : Value} {y : DataW H × List MemPlace} (ht : P.underlying u = some .bool) (h : DataW.trod enc P w 0 sp held m u [v] = some y) : ∃ b, v = .bool b := by
  obtain ⟨x, e, _⟩ := DataW.trod_bool ht h
  simp only [List.cons.injEq, and_true] at e
  exact ⟨x, e⟩
theorem leaf_string {P : Program} {sp : Nat → Bool} {N m : Nat} {u : TypeId} {v : Value} {y : DataW H × List MemPlace} (ht : P.underlying u = some .string) (h : DataW.trod enc P w 0 sp held m u [v] = some y) (hs : Small P N u y.1) : ∃ l : BL, v = .string (ba l) ∧ l.length ≤ N := by
  obtain ⟨s, e, hx, _⟩ := DataW.trod_string ht h
  simp only [List.cons.injEq, and_true] at e
  refine ⟨s.data.toList, e, ?_⟩
  subst hx
  exact hs _ (by simp [DataW.weights])
end
end Go.Proofs.YtfaohejdaabalaaGreatDoor
