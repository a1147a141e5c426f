/- Contracts of package hostelref03: Unsafe, Scrub. -/
import Derived.Test.YtoikoljadgnebaaZ8
import Derived.Laws.AppendOwnNone
namespace Go.Proofs.Ytoikoljadgnebaa
open Go.RowKit Go.Sort

theorem unsafe_any (w : World) :
    Calls Try.prog 29 #[] w fun e' w' => e' = .returned (.slice (some ⟨w.heap.size, 0, none⟩) 9 9) ∧ Cel w' (some ⟨w.heap.size, 0, none⟩) 9 (strs unsafeN) ∧ Below w.heap.size w w' := by
  have hr := Row.new w 9 (strs unsafeN)
  have HC := hid (show Cel (w.alloc (.cells (strs unsafeN).toArray 9)) (some ⟨w.heap.size, 0, none⟩) 9 (strs unsafeN) from ⟨rfl, fun i hi => ⟨_, _, rfl, by rw [Nat.zero_add]; exact hr.cell i hi⟩⟩)
  have HB := hid (bal (w := w) (.cells (strs unsafeN).toArray 9))
  clear hr
  go_enter Try.func29, Try.ntmps29
  go_wp2_with fail
  go_ret
  exact ⟨rfl, HC.out, HB.out⟩

def unF (ds : List BL) (k : Nat) : List BL := (unsafeN.take k).foldl unsetL ds
theorem unF_succ (ds : List BL) {k : Nat} (hk : k < unsafeN.length) : unF ds (k + 1) = unsetL (unF ds k) unsafeN[k] := by
  unfold unF; rw [List.take_succ_eq_append_getElem hk, List.foldl_append]; rfl
theorem unF_full (ds : List BL) : unF ds 9 = scrubL ds := by
  unfold unF; rw [List.take_of_length_le (by decide), unset_unsafe]
theorem unF_sub (ds : List BL) : ∀ k, (unF ds k).Sublist ds := by
  intro k
  unfold unF
  rw [unset_all]
  exact List.filter_sublist

set_option maxHeartbeats 1000000 in
theorem rscrub_any (a : Option Addr) (len cap : Nat) (ds : List BL) (w : World) (hB : Cel w a len (strs ds)) (hl : len ≤ 4000000000000) (hs : ∀ p ∈ ds, p.length ≤ 140737488351232) (hcap : a = none → cap = 0) :
    Calls Try.prog 25 #[.slice a len cap] w (OwnPost w (scrubL ds)) := by
  obtain ⟨rfl, _⟩ := cel_str hB
  have HCB := hid hB
  have HS := hid hs
  have HCAP := hid hcap
  clear hB hs hcap
  go_enter Try.func25, Try.ntmps25
  go_wp2_with fail
  refine (unsafe_any _).mono ?_
  rintro e' w0 ⟨rfl, hCU, hb0⟩
  have HCU := hid hCU
  have HB0 := hid hb0
  generalize w.heap.size = M at hCU HCU ⊢
  clear hCU hb0
  go_wp2_with fail
  go_loopw [4, 5] (fun v i wr => ∃ (k : Nat) (a' : Option Addr) (c' : Nat), k ≤ 9 ∧ i = .int .i64 k ∧ v = .slice a' (unF ds k).length c' ∧ Cel wr a' (unF ds k).length (strs (unF ds k)) ∧ Below w.heap.size w wr ∧ Below w0.heap.size w0 wr ∧ (a' = none → c' = 0)) (fun _ i _ => 9 - (intOf i).toNat)
  case atStart => exact ⟨0, a, cap, by omega, rfl, rfl, HCB.out.below' HB0.out, HB0.out, Below.refl _ _, HCAP.out⟩
  case round =>
    obtain ⟨k, a', c', hk, rfl, rfl, hC, hb, hb2, hcp⟩ := hrel
    have HCP := hid hcp
    have HC := hid hC
    have HB := hid hb
    have HB2 := hid hb2
    have HSUB := hid (unF_sub ds k)
    have HLE := hid (show (unF ds k).length ≤ 4000000000000 by have := HSUB.out.length_le; omega)
    have HSZ := hid (fun p hp => HS.out p (HSUB.out.subset hp))
    clear hC hb hb2 hcp
    by_cases hlt : k < 9
    · have d1 : decide ((k : Int) < 9) = true := by simp; omega
      obtain ⟨_, hat⟩ := cel_str (HCU.out.below' HB2.out)
      obtain ⟨bU, oU, eU, hat2⟩ := hat (by decide)
      cases eU
      have hx := hat2 k hlt
      rw [Nat.zero_add] at hx
      have HUS := hid (unF_succ ds (k := k) hlt)
      clear hat hat2
      generalize hnm : unsafeN[k] = nm at *
      clear hnm
      go_wp2_with fail
      refine (runset_any _ _ _ _ _ _ HC.out HLE.out HSZ.out).mono ?_
      rintro e' w1 ⟨v1, rfl, ho1, hb1⟩
      obtain ⟨a9, c9, rfl, hC9, hcp9, _⟩ := own_cel ho1
      have HCP9 := hid hcp9
      have HC9 := hid hC9
      have HB9 := hid (bthen HB.out hb1)
      have HB29 := hid (bthen HB2.out hb1)
      clear ho1 hC9 hb1 hx hcp9
      rw [ba_list] at HC9 ⊢
      go_wp2_with fail
      go_roundw
      case rel => exact ⟨k + 1, a9, c9, by omega, by go_num, by rw [HUS.out], by rw [HUS.out]; exact HC9.out, HB9.out, HB29.out, HCP9.out⟩
      case measure => simp [intOf]; omega
    · have d1 : decide ((k : Int) < 9) = false := by simp; omega
      obtain rfl : k = 9 := by omega
      rw [unF_full] at HC HLE ⊢
      obtain ⟨i0, hi, hz0, hz1, hz2⟩ := info_parts infoS
      obtain ⟨_, hat⟩ := cel_str HC.out
      cases a' with
      | none =>
        have h0 : scrubL ds = [] := by
          by_cases h : scrubL ds = []
          · exact h
          · obtain ⟨b, off, e, _⟩ := hat (List.length_pos_iff.2 h); cases e
        obtain rfl := HCP.out rfl
        rw [h0] at HC ⊢
        have HOO := hid (ownS_nil wr w.heap.size)
        have H0 := hid h0
        clear h0 hat
        simp only [List.length_nil]
        go_wp2_with (at_builtin; go_must (refine wpList_append_own_none rfl _ _ 22 rfl w.heap.size 9 i0 1 Try.underlying22 hi (.slice none 0 0) 0 [] rfl HOO.out rfl ?_))
        go_ret
        exact ⟨_, rfl, by rw [H0.out]; exact HOO.out, HB.out⟩
      | some ad =>
        have HNW := hid HC.out.news
        have HL0 := hid (show (strs (scrubL ds)).length = (scrubL ds).length * 1 by rw [strsS_len]; omega)
        have HL1 := hid (show 0 + (scrubL ds).length ≤ maxLen by have := HLE.out; unfold maxLen; omega)
        have HL2 := hid (show (0 + (scrubL ds).length) * 16 ≤ 140737488355328 by have := HLE.out; omega)
        have HBS := hid HB.out.size
        clear hat
        go_wp2_with (at_builtin; go_must (refine wpList_append_own _ rfl _ _ 22 rfl w.heap.size 9 i0 (.string ByteArray.empty) 1 16 Try.underlying22 hi hz0 hz1 hz2 rfl (by decide) (.slice none 0 0) 0 [] rfl (World.ownsRow_nil _ _ _ _) ad (scrubL ds).length c' (strs (scrubL ds)) rfl HL0.out HNW.out (strsS_one _) HL1.out HL2.out HBS.out ?_; intro v' w9 hown hgrow _; have HO9 := hid hown; have HB9 := hid (HB.out.grown hgrow HBS.out (fun k hk => by cases hk)); clear hown hgrow))
        go_ret
        exact ⟨_, rfl, own_ext HO9.out (by simp) (by simp), HB9.out⟩
end Go.Proofs.Ytoikoljadgnebaa
