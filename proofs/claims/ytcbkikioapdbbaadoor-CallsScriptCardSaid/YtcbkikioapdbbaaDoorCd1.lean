
/- hostelref25.fields, has. -/
import Derived.Test.YtcbkikioapdbbaaDoorKC2
namespace Go.Proofs.YtcbkikioapdbbaaDoor
open Go.RowKit Go.Sort
attribute [local go_sem] Oper.semAt_some

/-- The letters of a kind's fields. -/
def fdsR : Nat → BL
  | 1 => [80, 86, 87]
  | 3 => [65]
  | 5 => [65, 66, 67, 68, 69]
  | 6 => [65, 66]
  | 7 => [65, 66, 67]
  | 8 => [65, 66]
  | 9 => [65, 88]
  | 10 => [80, 65]
  | 11 => [65]
  | 12 => [65, 66]
  | _ => []
theorem fdsR_len (k : Nat) : (fdsR k).length ≤ 5 := by unfold fdsR; split <;> decide
def fdsL : List BL := [[], [80, 86, 87], [], [65], [], [65, 66, 67, 68, 69], [65, 66], [65, 66, 67], [65, 66], [65, 88], [80, 65], [65], [65, 66]]
theorem fdsL_at (k : Nat) (h : k < 13) : (fdsL.map (fun s => Value.string (ba s)))[k]? = some (.string (ba (fdsR k))) := by
  have hc : k = 0 ∨ k = 1 ∨ k = 2 ∨ k = 3 ∨ k = 4 ∨ k = 5 ∨ k = 6 ∨ k = 7 ∨ k = 8 ∨ k = 9 ∨ k = 10 ∨ k = 11 ∨ k = 12 := by omega
  rcases hc with rfl | rfl | rfl | rfl | rfl | rfl | rfl | rfl | rfl | rfl | rfl | rfl | rfl <;> rfl
theorem fdsR_no (k : Nat) (h : ¬ k < 13) : fdsR k = [] := by
  unfold fdsR
  split <;> first | omega | rfl

set_option maxRecDepth 100000 in
set_option maxHeartbeats 4000000 in
theorem fields_any (k : Nat) (w : World) (hk : k < 256) :
    Calls Tryd.prog 44 #[.int .u8 (k : Nat)] w fun e w' => e = .returned (.string (ba (fdsR k))) ∧ Below w.heap.size w w' := by
  by_cases h : k < 13
  · have d1 : decide ((13 : Int) ≤ (k : Int)) = false := by simp; omega
    have d1n : decide (13 ≤ k) = false := by simp; omega
    have HE := hid (show (fdsL.map (fun s => Value.string (ba s)))[k]'h = .string (ba (fdsR k)) from Option.some.inj ((List.getElem?_eq_getElem (l := fdsL.map (fun s => Value.string (ba s))) h).symm.trans (fdsL_at k h)))
    go_enter Tryd.func44, Tryd.ntmps44
    go_wp2_with fail
    go_ret
    exact ⟨congrArg Ending.returned HE.out, bal _⟩
  · have d1 : decide ((13 : Int) ≤ (k : Int)) = true := by simp; omega
    have d1n : decide (13 ≤ k) = true := by simp; omega
    have HN := hid (fdsR_no k h)
    go_enter Tryd.func44, Tryd.ntmps44
    go_wp2_with fail
    go_ret
    exact ⟨by rw [HN.out]; rfl, bal _⟩
theorem idx_str (l : BL) (j : Nat) (h : j < l.length) (w : World) : (Instr.index 9 (.string (ba l)) (.int .i64 j)).run Tryd.prog w = .ok (.int .u8 (l[j].toNat : Int)) w := by
  rw [run_index_string w 9 (ba l) .i64 (j : Int) Tryd.underlying9, dif_pos ⟨by omega, by rw [ba_size]; omega⟩]
  rfl
def hasR (k : Nat) (c : UInt8) : Bool := (fdsR k).contains c

set_option maxRecDepth 100000 in
set_option maxHeartbeats 4000000 in
theorem has_any (k : Nat) (c : UInt8) (ci : Int) (hci : ci = (c.toNat : Nat)) (w : World) (hk : k < 256) :
    Calls Tryd.prog 57 #[.int .u8 (k : Nat), .int .u8 ci] w fun e w' => e = .returned (.bool (hasR k c)) ∧ Below w.heap.size w w' := by
  subst hci
  have HL := hid (fdsR_len k)
  have HF : Hid (hasR k c = (fdsR k).contains c) := hid rfl
  go_enter Tryd.func57, Tryd.ntmps57
  go_wp2_with fail
  refine (fields_any k w hk).mono ?_
  rintro e' w1 ⟨rfl, hb⟩
  have HB := hid hb
  clear hb
  have hz : ((ba (fdsR k)).size : Int) = ((fdsR k).length : Int) := by rw [ba_size]
  have hzn : (ba (fdsR k)).size = (fdsR k).length := ba_size _
  generalize fdsR k = l at *
  go_wp2_with fail
  go_loopw [6] (fun i wr => ∃ j : Nat, j ≤ l.length ∧ i = .int .i64 j ∧ (∀ q (h : q < l.length), q < j → l[q] ≠ c) ∧ Below w.heap.size w wr) (fun i _ => l.length - (intOf i).toNat)
  case atStart => exact ⟨0, Nat.zero_le _, rfl, (fun q _ h => by omega), HB.out⟩
  case round =>
    obtain ⟨j, hj, rfl, hno, hbr⟩ := hrel
    have HB := hid hbr
    have HNO := hid hno
    have hl5 := HL.out
    clear hno hbr
    by_cases hlt : j < l.length
    · have d1 : decide ((j : Int) < (l.length : Int)) = true := by simp; omega
      have d1n : decide (j < l.length) = true := by simp; omega
      have hx := idx_str l j hlt wr
      by_cases he : l[j] = c
      · have q1 : ((l[j].toNat : Int) == (c.toNat : Int)) = true := by rw [he]; simp
        have HT := hid (show hasR k c = true by rw [HF.out, List.contains_iff_mem, ← he]; exact List.getElem_mem hlt)
        clear he
        go_wp2_with fail
        go_ret
        exact ⟨by rw [HT.out]; rfl, HB.out⟩
      · have q1 : ((l[j].toNat : Int) == (c.toNat : Int)) = false := by
          simp only [beq_eq_false_iff_ne, ne_eq, Int.ofNat_inj]
          exact fun e => he (UInt8.toNat_inj.1 e)
        have HE := hid he
        clear he
        go_wp2_with fail
        go_roundw
        case rel => exact ⟨j + 1, by omega, by go_num, (fun q h1 h2 => by
          by_cases e : q = j
          · subst e; exact HE.out
          · exact HNO.out q h1 (by omega)), HB.out⟩
        case measure => simp [intOf]; omega
    · have d1 : decide ((j : Int) < (l.length : Int)) = false := by simp; omega
      have d1n : decide (j < l.length) = false := by simp; omega
      have HT := hid (show hasR k c = false by
        rw [HF.out, List.contains_eq_any_beq, List.any_eq_false]
        intro x hx
        obtain ⟨q, hq, rfl⟩ := List.getElem_of_mem hx
        have := HNO.out q hq (by omega)
        simp only [beq_iff_eq]
        exact fun e => this e.symm)
      go_wp2_with fail
      go_ret
      exact ⟨by rw [HT.out]; rfl, HB.out⟩
end Go.Proofs.YtcbkikioapdbbaaDoor
