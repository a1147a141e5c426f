
/- dynamic: leads. -/
import Derived.Test.YtkkadknijjninaaDoorQb6
namespace Go.Proofs.YtkkadknijjninaaDoor
open Go.RowKit Go.Sort Go.Shelf
attribute [local go_sem] Oper.semAt_some

theorem linkG_len (cs : List Int) : ∀ (f : Nat) (link : Int) (acc : List Int), (linkG cs f link acc).1.length ≤ acc.length + f
  | 0, link, acc => Nat.le_refl _
  | f + 1, link, acc => by
    unfold linkG
    split
    · exact Nat.le_add_right _ _
    split
    · exact Nat.le_add_right _ _
    have := linkG_len cs f (cs.getD link.toNat 0) (acc ++ [link])
    rw [List.length_append, show [link].length = 1 from rfl] at this
    omega
theorem linkG_mem {cs : List Int} (hcu : ∀ x ∈ cs, 0 ≤ x) : ∀ (f : Nat) (link : Int) (acc : List Int), 0 ≤ link → ∀ x ∈ (linkG cs f link acc).1, x ∈ acc ∨ (0 < x ∧ x < cs.length)
  | 0, link, acc, _, x, hx => .inl hx
  | f + 1, link, acc, h0, x, hx => by
    unfold linkG at hx
    split at hx
    · exact .inl hx
    split at hx
    · exact .inl hx
    rename_i hz hl
    have hn : 0 ≤ cs.getD link.toNat 0 := by
      rw [getD_n (show link.toNat < cs.length by omega)]
      exact hcu _ (List.getElem_mem _)
    rcases linkG_mem hcu f _ _ hn x hx with h | h
    · rcases List.mem_append.1 h with h | h
      · exact .inl h
      · rw [List.mem_singleton] at h
        subst h
        exact .inr ⟨by omega, by omega⟩
    · exact .inr h
theorem linksL_len (bs cs : List Int) (s : BL) : (linksL bs cs s).1.length ≤ cs.length := by
  unfold linksL
  split
  · exact Nat.zero_le _
  · have := linkG_len cs cs.length (bs.getD (hashN s % bs.length).toNat 0) []
    simpa using this
theorem linksL_mem {bs cs : List Int} {s : BL} (hcu : ∀ x ∈ cs, 0 ≤ x) (hbu : ∀ x ∈ bs, 0 ≤ x) : ∀ x ∈ (linksL bs cs s).1, 0 < x ∧ x < cs.length := by
  intro x hx
  unfold linksL at hx
  split at hx
  · cases hx
  · rename_i hz
    have hn : 0 ≤ bs.getD (hashN s % bs.length).toNat 0 := by
      have hb : 0 < bs.length := List.length_pos_iff.2 hz
      have h0 := Int.emod_nonneg (hashN s) (show (bs.length : Int) ≠ 0 by omega)
      have h1 := Int.emod_lt_of_pos (hashN s) (show (0 : Int) < bs.length by omega)
      rw [getD_n (show (hashN s % bs.length).toNat < bs.length by omega)]
      exact hbu _ (List.getElem_mem _)
    rcases linkG_mem hcu _ _ _ hn x hx with h | h
    · cases h
    · exact h
/-- Does a name's bucket lead to a number, and end? -/
def leadsB (bs cs : List Int) (s : BL) (n : Int) : Bool := (linksL bs cs s).1.contains n && (linksL bs cs s).2
set_option maxRecDepth 100000 in
set_option maxHeartbeats 8000000 in
theorem leads_any (a b : Option Addr) (ca cb : Nat) (bs cs : List Int) (s : BL) (n : Int) (w : World) (hA : Nums w .u64 a bs.length bs) (hB : Nums w .u64 b cs.length cs) (hbl : bs.length ≤ 1000000000) (hcl : cs.length ≤ 1000000000) (hcu : ∀ x ∈ cs, 0 ≤ x ∧ x ≤ 18446744073709551615) (hbu : ∀ x ∈ bs, 0 ≤ x ∧ x ≤ 18446744073709551615) (hs : s.length ≤ 1000000000) :
    Calls Tryd.prog 27 #[.agg #[.slice a bs.length ca, .slice b cs.length cb], .string (ba s), .int .u64 n] w (fun e w' => e = .returned (.bool (leadsB bs cs s n)) ∧ Below w.heap.size w w') := by
  obtain ⟨W, hW⟩ : ∃ W, W = w.alloc (.cells #[.slice a bs.length ca, .slice b cs.length cb] 58) := ⟨_, rfl⟩
  have HW := hid hW
  have HLOW := hid (show Below w.heap.size w W by rw [hW]; exact bal _)
  have HROW := hid (show Row W w.heap.size 58 [.slice a bs.length ca, .slice b cs.length cb] by rw [hW]; exact Row.new _ _ _)
  have HLK := hid (links_any a b ca cb bs cs s W (hA.below' HLOW.out) (hB.below' HLOW.out) hbl hcl hcu hbu hs)
  have HLL := hid (Nat.le_trans (linksL_len bs cs s) hcl)
  obtain ⟨D, hD⟩ : ∃ D, D = leadsB bs cs s n := ⟨_, rfl⟩
  rw [← hD]
  unfold leadsB at hD
  generalize linksL bs cs s = R at hD HLK HLL
  have HD := hid hD
  obtain ⟨x0, x1⟩ := (show W.cell? ⟨w.heap.size, 0, none⟩ = some (.slice a bs.length ca) ∧ W.cell? ⟨w.heap.size, 1, none⟩ = some (.slice b cs.length cb) from ⟨HROW.out.cell 0 (by simp), HROW.out.cell 1 (by simp)⟩)
  have hrl := HROW.out.lt
  clear hW hA hB hbl hcl hcu hbu hs hD
  go_enter Tryd.func27, Tryd.ntmps27
  go_wp2_with fail
  rw [← HW.out]
  go_wp2_with fail
  refine HLK.out.mono ?_
  intro e' w1 h1
  obtain ⟨⟨a9, c9, rfl, hn9⟩, hb1⟩ := (show LnkP _ _ _ _ from h1)
  have HN := hid hn9
  have HBL1 := hid (HLOW.out.trans (hb1.mono HLOW.out.size))
  obtain ⟨acc, ends⟩ := R
  clear h1 hn9 hb1 x0 x1 hrl
  go_wp2_with fail
  go_loopw [19] (fun i wr => ∃ k : Nat, k ≤ acc.length ∧ i = .int .i64 k ∧ ¬ n ∈ acc.take k ∧ w1 = wr) (fun i _ => acc.length - (intOf i).toNat)
  case atStart => exact ⟨0, Nat.zero_le _, rfl, by simp, rfl⟩
  case round =>
    obtain ⟨k, hk, rfl, hno, rfl⟩ := hrel
    have hll := (show acc.length ≤ 1000000000 from HLL.out)
    have HNO := hid hno
    clear hno
    by_cases hlt : k < acc.length
    · have d2 : decide ((k : Int) < (acc.length : Int)) = true := by simp; omega
      have d2n : decide (k < acc.length) = true := by simp; omega
      obtain ⟨b9, o9, rfl, hcj⟩ := HN.out.cell k hlt
      by_cases he : acc[k] = n
      · have HF := hid (show D = ends by
          rw [HD.out]
          have : acc.contains n = true := by rw [List.contains_iff_mem, ← he]; exact List.getElem_mem _
          simp only [this, Bool.true_and])
        have e1 : (acc[k] == n) = true := by simpa using he
        generalize acc[k] = x at *
        clear he
        go_wp2_with fail
        go_ret
        exact ⟨by rw [HF.out]; rfl, HBL1.out⟩
      · have e1 : (acc[k] == n) = false := by simpa using he
        have HT := hid (show ¬ n ∈ acc.take (k + 1) by
          rw [List.take_succ_eq_append_getElem hlt]
          intro hm
          rcases List.mem_append.1 hm with h | h
          · exact HNO.out h
          · rw [List.mem_singleton] at h; exact he h.symm)
        generalize acc[k] = x at *
        clear he
        go_wp2_with fail
        go_roundw
        case rel => exact ⟨k + 1, by omega, by go_num, HT.out, trivial⟩
        case measure => simp [intOf]; omega
    · have d2 : decide ((k : Int) < (acc.length : Int)) = false := by simp; omega
      have d2n : decide (k < acc.length) = false := by simp; omega
      have HF := hid (show D = false by
        rw [HD.out]
        have : acc.contains n = false := by
          rw [Bool.eq_false_iff]
          intro h
          rw [List.contains_iff_mem] at h
          have := HNO.out
          rw [List.take_of_length_le (by omega)] at this
          exact this h
        simp only [this, Bool.false_and])
      clear hlt hk
      go_wp2_with fail
      go_ret
      exact ⟨by rw [HF.out]; rfl, HBL1.out⟩
end Go.Proofs.YtkkadknijjninaaDoor
