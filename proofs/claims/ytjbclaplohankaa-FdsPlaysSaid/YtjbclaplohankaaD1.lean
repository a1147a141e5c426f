/- Package fds: which slot is meant. -/
import Derived.Test.YtjbclaplohankaaRows
import Derived.Test.YtjbclaplohankaaD0
import Derived.Deep.DeepMust
namespace Go.Proofs.Ytjbclaplohankaa
open Go.RowKit Go.Sort

theorem open1_any (i : Int) (s : SL) (w : World) :
    Calls Try.prog 28 #[.int .i64 i, slotV s] w fun e w' => e = .returned (.bool (!s.1)) ∧ Below w.heap.size w w' := by
  obtain ⟨u, n, p, c⟩ := s
  have HW := hid (@bal w)
  go_enter Try.func28, Try.ntmps28
  go_wp2_with fail
  go_ret
  exact ⟨rfl, HW.out _⟩

theorem used1_any (i fd : Int) (s : SL) (b : Nat) (w : World) (hc : w.cell? ⟨b, 0, none⟩ = some (.int .i64 fd)) :
    Calls Try.prog 30 #[.int .i64 i, slotV s, .pointer (some ⟨b, 0, none⟩)] w fun e w' => e = .returned (.bool ((i == fd) && s.1)) ∧ Below w.heap.size w w' := by
  obtain ⟨u, n, p, c⟩ := s
  have HW := hid (@bal w)
  have hlt := World.block_lt_of_cell? _ _ hc
  simp only [] at hlt
  cases h : (i == fd)
  · go_enter Try.func30, Try.ntmps30
    go_wp2_with fail
    go_ret
    exact ⟨rfl, HW.out _⟩
  · go_enter Try.func30, Try.ntmps30
    go_wp2_with fail
    go_ret
    exact ⟨rfl, HW.out _⟩

theorem sizeTab : (Try.prog.info? 48).map (·.size) = some 64 := by kernel_rfl
theorem sizeSlot : (Try.prog.info? 44).map (·.size) = some 4 := by kernel_rfl

theorem run_idx (ss : List SL) (h : ss.length = 16) (k : Nat) (hk : k < ss.length) (w : World) :
    (Instr.index 48 (.agg (flat ss).toArray) (.int .i64 k)).run Try.prog w = .ok (slotV ss[k]) w := by
  have hu := run_underlying Try.underlying48 w
  have hz : (sizeOf 44).run Try.prog w = .ok 4 w := Try.sizeOf44 w
  have hi : (0 : Int) ≤ (k : Int) ∧ (k : Int) < ((16 : Nat) : Int) := by omega
  have hp : (part 44 (flat ss).toArray (k * 4)).run Try.prog w = .ok (slotV ss[k]) w := by
    have hag : (isAgg 44).run Try.prog w = .ok true w := Try.isAgg44 w
    simp only [part, Sem.run_bind, hag, hz, Result.andThen_ok, if_true]
    rw [flat_extract ss k hk]
    rfl
  simp only [Instr.index, Sem.run_bind, asIntOf, Sem.run_pure, hu, hz, Result.andThen_ok]
  rw [if_pos hi]
  simpa [Sem.run_bind, hz, Result.andThen] using hp

/-- The first slot of which q holds, or none. -/
def WhichP (q : Nat → SL → Bool) (ss : List SL) (w : World) (e : Ending) (w' : World) : Prop :=
  ((∃ (i : Nat) (h : i < ss.length), q i ss[i] = true ∧ (∀ j (hj : j < ss.length), j < i → q j ss[j] = false) ∧ e = .returned (.tuple #[.int .i64 i, .bool true])) ∨
    ((∀ j (hj : j < ss.length), q j ss[j] = false) ∧ e = .returned (.tuple #[.int .i64 0, .bool false]))) ∧ Below w.heap.size w w'

set_option maxHeartbeats 1000000 in
theorem whichO_any (b : Nat) (ss : List SL) (q : Nat → SL → Bool) (w : World) (ht : Tab w b 50 ss)
    (hq : ∀ (i : Nat) (s : SL) (wr : World), Below w.heap.size w wr → Calls Try.prog 28 #[.int .i64 i, slotV s] wr fun e w' => e = .returned (.bool (q i s)) ∧ Below wr.heap.size wr w') :
    Calls Try.prog 27 #[.pointer (some ⟨b, 0, none⟩), .func (.func 28) #[] #[]] w (WhichP q ss w) := by
  have HH := hid ht.row.heap
  have hlen := ht.len
  have HS := hid (show (Try.prog.info? 48).map (·.size) = some (flat ss).toArray.size by rw [sizeTab, List.size_toArray, flat_len, hlen])
  have HI := hid (fun (k : Nat) (hk : k < ss.length) => run_idx ss hlen k hk)
  have HQ := hid hq
  have HL := hid hlen
  clear ht hq hlen
  go_enter Try.func27, Try.ntmps27
  go_wp2_with (refine wpList_load_row rfl 48 _ rfl b rfl 50 (flat ss).toArray (0, 0) _ HH.out Try.underlying48 rfl HS.out ?_)
  go_loopw [12] (fun i wr => ∃ k : Nat, k ≤ 16 ∧ i = .int .i64 k ∧ (∀ j (hj : j < ss.length), j < k → q j ss[j] = false) ∧ Below w.heap.size w wr) (fun i _ => 16 - (intOf i).toNat)
  case atStart => exact ⟨0, Nat.zero_le _, rfl, fun j hj h => by omega, Below.refl _ _⟩
  case round =>
    obtain ⟨k, hk, rfl, hno, hb⟩ := hrel
    have HN := hid hno
    have HB := hid hb
    have hbz := hb.size
    clear hno hb
    by_cases hlt : k < 16
    · have hd : decide ((k : Int) < 16) = true := by simp; omega
      have hks : k < ss.length := by rw [HL.out]; exact hlt
      have hidx := HI.out k hks
      have HBA := hid (fun o => HB.out.alloc hbz o)
      generalize hsk : ss[k] = sk at *
      have HSK := hid hsk
      obtain ⟨u, n, p, c⟩ := sk
      clear hsk
      go_wp2_with fail
      refine (HQ.out k (u, n, p, c) _ (HBA.out _)).mono ?_
      rintro e' w2 ⟨rfl, hb2⟩
      have HB2 := hid (bthen (HBA.out _) hb2)
      have hsz2 := hb2.size
      simp only [World.size_alloc] at hsz2
      clear hb2 hidx
      cases hqq : q k (u, n, p, c)
      · have HQF := hid hqq
        clear hqq
        go_wp2_with fail
        go_roundw
        case rel =>
          refine ⟨k + 1, by omega, by go_num, fun j hj hjk => ?_, HB2.out⟩
          by_cases e : j = k
          · subst e; rw [HSK.out]; exact HQF.out
          · exact HN.out j hj (by omega)
        case measure => simp [intOf]; omega
      · have HQF := hid hqq
        clear hqq
        go_wp2_with fail
        go_ret2
        exact ⟨.inl ⟨k, hks, by rw [HSK.out]; exact HQF.out, HN.out, rfl⟩, HB2.out⟩
    · have hd : decide ((k : Int) < 16) = false := by simp; omega
      have hdn : decide (k < 16) = false := by simp; omega
      go_wp2_with fail
      go_ret2
      exact ⟨.inr ⟨fun j hj => HN.out j hj (by rw [HL.out] at hj; omega), rfl⟩, HB.out⟩

set_option maxHeartbeats 1000000 in
theorem whichU_any (b : Nat) (ss : List SL) (q : Nat → SL → Bool) (w : World) (bb : Nat) (ht : Tab w b 50 ss)
    (hq : ∀ (i : Nat) (s : SL) (wr : World), Below w.heap.size w wr → Calls Try.prog 30 #[.int .i64 i, slotV s, .pointer (some ⟨bb, 0, none⟩)] wr fun e w' => e = .returned (.bool (q i s)) ∧ Below wr.heap.size wr w') :
    Calls Try.prog 27 #[.pointer (some ⟨b, 0, none⟩), .func (.func 30) #[] #[.pointer (some ⟨bb, 0, none⟩)]] w (WhichP q ss w) := by
  have HH := hid ht.row.heap
  have hlen := ht.len
  have HS := hid (show (Try.prog.info? 48).map (·.size) = some (flat ss).toArray.size by rw [sizeTab, List.size_toArray, flat_len, hlen])
  have HI := hid (fun (k : Nat) (hk : k < ss.length) => run_idx ss hlen k hk)
  have HQ := hid hq
  have HL := hid hlen
  clear ht hq hlen
  go_enter Try.func27, Try.ntmps27
  go_wp2_with (refine wpList_load_row rfl 48 _ rfl b rfl 50 (flat ss).toArray (0, 0) _ HH.out Try.underlying48 rfl HS.out ?_)
  go_loopw [12] (fun i wr => ∃ k : Nat, k ≤ 16 ∧ i = .int .i64 k ∧ (∀ j (hj : j < ss.length), j < k → q j ss[j] = false) ∧ Below w.heap.size w wr) (fun i _ => 16 - (intOf i).toNat)
  case atStart => exact ⟨0, Nat.zero_le _, rfl, fun j hj h => by omega, Below.refl _ _⟩
  case round =>
    obtain ⟨k, hk, rfl, hno, hb⟩ := hrel
    have HN := hid hno
    have HB := hid hb
    have hbz := hb.size
    clear hno hb
    by_cases hlt : k < 16
    · have hd : decide ((k : Int) < 16) = true := by simp; omega
      have hks : k < ss.length := by rw [HL.out]; exact hlt
      have hidx := HI.out k hks
      have HBA := hid (fun o => HB.out.alloc hbz o)
      generalize hsk : ss[k] = sk at *
      have HSK := hid hsk
      obtain ⟨u, n, p, c⟩ := sk
      clear hsk
      go_wp2_with fail
      refine (HQ.out k (u, n, p, c) _ (HBA.out _)).mono ?_
      rintro e' w2 ⟨rfl, hb2⟩
      have HB2 := hid (bthen (HBA.out _) hb2)
      have hsz2 := hb2.size
      simp only [World.size_alloc] at hsz2
      clear hb2 hidx
      cases hqq : q k (u, n, p, c)
      · have HQF := hid hqq
        clear hqq
        go_wp2_with fail
        go_roundw
        case rel =>
          refine ⟨k + 1, by omega, by go_num, fun j hj hjk => ?_, HB2.out⟩
          by_cases e : j = k
          · subst e; rw [HSK.out]; exact HQF.out
          · exact HN.out j hj (by omega)
        case measure => simp [intOf]; omega
      · have HQF := hid hqq
        clear hqq
        go_wp2_with fail
        go_ret2
        exact ⟨.inl ⟨k, hks, by rw [HSK.out]; exact HQF.out, HN.out, rfl⟩, HB2.out⟩
    · have hd : decide ((k : Int) < 16) = false := by simp; omega
      have hdn : decide (k < 16) = false := by simp; omega
      go_wp2_with fail
      go_ret2
      exact ⟨.inr ⟨fun j hj => HN.out j hj (by rw [HL.out] at hj; omega), rfl⟩, HB.out⟩
end Go.Proofs.Ytjbclaplohankaa
