/- Contract of paths.Parts. -/
import Derived.Test.YtgclemicgcbpjaaP3
import Derived.Deep.RegionWith
namespace Go.Proofs.Ytgclemicgcbpjaa
open Go.RowKit Go.Sort

theorem parts_bad {l : BL} (h : ¬ chkE l = 0) : partsF l = [] ∧ rootF l = false := by
  unfold partsF rootF
  rw [if_neg h]
  simp [h]
theorem parts_good {l : BL} (h : chkE l = 0) : partsF l = (cuts 47 l).filter goodP ∧ rootF l = begB l := by
  unfold partsF rootF partsL
  rw [if_pos h]
  simp [h]

set_option maxHeartbeats 1000000 in
theorem parts2_any (s : ByteArray) (w : World) (hs : s.size ≤ 1000000) :
    Calls Try.prog 36 #[.string s] w fun e' w' => ∃ v, e' = .returned (.tuple #[v, .bool (rootF s.data.toList), .int .i64 (chkE s.data.toList)]) ∧ OwnT w' w.heap.size v (partsF s.data.toList) ∧ Below w.heap.size w w' ∧ (partsF s.data.toList = [] → v = .slice none 0 0) := by
  go_enter Try.func36, Try.ntmps36
  go_wp2_with fail
  refine (check_any s _ hs).mono ?_
  rintro e' w1 ⟨rfl, hb⟩
  have hb0 := bthen (bal _) hb
  have hr := (Row.new w 59 [.slice none 0 0]).below hb (by simp)
  have hz := hb.size
  simp only [World.size_alloc] at hz
  have HB := hid hb0
  have HR := hid hr
  have hc := hr.cell 0 (by simp)
  have hf := hr.frozen 0
  simp only [List.getElem_cons_zero] at hc
  have hlt : w.heap.size < w1.heap.size := by omega
  clear hb hb0 hr
  by_cases h : chkE s.data.toList = 0
  · have HP := hid (parts_good h)
    have HH := hid h
    rw [h]
    clear h
    go_wp2_with fail
    refine (piecesP_any s w.heap.size (parJ w.heap.size (w.heap.size + 1) w) _ hs ?_ ?_ ?_).mono ?_
    · exact ⟨_, HR.out.alloc _, World.ownsRow_nil _ _ _ _, HB.out.alloc (by omega) _, Nat.le_refl _, by omega, by show w.heap.size + 1 ≤ (w1.alloc _).heap.size; rw [World.size_alloc]; omega, fun _ => rfl⟩
    · rintro ds wr q q' ⟨v, hr, ho, hb, hg, hgb, hbz, hnil⟩ hit
      exact ⟨v, mvIter_row hr hit q', mvIter_own ho hit q', mvIter_below hb (by omega) q', hg, hgb, by rw [mvIter_size]; exact hbz, hnil⟩
    · intro ds x' wr hJ hx hds
      refine (parts1_any x' _ _ ds w wr (by omega) hJ).mono ?_
      rintro e w2 ⟨rfl, hJ2, hfr⟩
      exact ⟨rfl, hJ2, fun q hq => hfr _ _ _ hq⟩
    · rintro e' w2 ⟨rfl, v, hr, ho, hb, _, hgb, hbz, hnil⟩
      have HNIL := hid hnil
      clear hnil
      have HB2 := hid hb
      have HR2 := hid hr
      have HO2 := hid ho
      obtain ⟨a9, c9, rfl, _⟩ := own_cel ho
      have hc2 := hr.cell 0 (by simp)
      have hf2 := hr.frozen 0
      have hlt2 := hr.lt
      simp only [List.getElem_cons_zero] at hc2
      have HNE := hid (own_ne ho (.inl hgb))
      clear hb hr ho hc hf hlt HR HB
      go_wp2_with fail
      go_region_with (go_at_call 56; refine (begins_any _ _).mono ?_; rintro e' wx ⟨rfl, rfl⟩)
      all_goals (
        go_wp2_with fail
        refine bodyPost_ret (v := .tuple #[.slice a9 ((cuts 47 s.data.toList).filter goodP).length c9, .bool (begB s.data.toList), .int .i64 0]) (by simp [results, Try.results36, go_sem, hc2]) rfl ⟨_, by rw [HP.out.2, HH.out], ?_, ?_, ?_⟩
        · rw [HP.out.1]
          exact own_from (own_setOther HO2.out HNE.out _) (by omega)
        · repeat (first | with_reducible refine bset ?_ (Nat.le_refl _) _ | with_reducible refine Below.drew ?_)
          exact HB2.out
        · rw [HP.out.1]; exact HNIL.out)
  · have HP := hid (parts_bad h)
    have hn : (chkE s.data.toList != 0) = true := by simpa using h
    clear h
    go_wp2_with fail
    refine bodyPost_ret (v := .tuple #[.slice none 0 0, .bool false,   .int .i64 (chkE s.data.toList)]) (by simp [results, Try.results36, go_sem, hc]) rfl ⟨_, by rw [HP.out.2], ?_, bset HB.out (Nat.le_refl _) _, fun _ => rfl⟩
    rw [HP.out.1]
    exact World.ownsRow_nil _ _ _ _

theorem parts_any (s : ByteArray) (w : World) (hs : s.size ≤ 1000000) :
    Calls Try.prog 36 #[.string s] w fun e' w' => ∃ v, e' = .returned (.tuple #[v, .bool (rootF s.data.toList), .int .i64 (chkE s.data.toList)]) ∧ OwnT w' w.heap.size v (partsF s.data.toList) ∧ Below w.heap.size w w' :=
  (parts2_any s w hs).mono fun _ _ ⟨v, h1, h2, h3, _⟩ => ⟨v, h1, h2, h3⟩
end Go.Proofs.Ytgclemicgcbpjaa
