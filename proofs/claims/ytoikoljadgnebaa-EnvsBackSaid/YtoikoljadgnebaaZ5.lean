/- The map of the unsafe names. -/
import Derived.Test.YtoikoljadgnebaaZ4
import Derived.Maps.OwnOps
namespace Go.Proofs.Ytoikoljadgnebaa
open Go.RowKit Go.Sort Go.WideMaps Go.Maps

theorem _root_.Go.World.ownsMap.lookup_bool {H : Type} {P : Program} {w : World} {k t e : TypeId} {b n : Nat} {D : DataW H} (h : w.ownsMap P k (plainElem P e) b n D) (K : Keyed P k) (ht : P.underlying t = some (.map k e)) (he : P.underlying e = some .bool) (hz : (zeroValue e).run P w = .ok (.bool false) w)
    {key : Value} {kl : Lit} (hkey : keyOf P k key = some kl) : ∃ c, (Instr.lookup t (.map (some b)) key false).run P w = .ok (.bool c) w ∧ D.atKey kl (.lit (.bool false)) = .lit (.bool c) := by
  obtain ⟨v, ps, hrun, hv⟩ := h.lookup K ht hz (plainElem_bool he false) hkey
  unfold plainElem at hv
  rw [he] at hv
  cases v <;> simp at hv
  rename_i c
  exact ⟨c, hrun, hv.1.symm⟩

def addN {H : Type} (D : DataW H) (n : BL) : DataW H := D.put (.string n) (.lit (.bool true))
def mapN {H : Type} (ns : List BL) : DataW H := ns.foldl addN (.map [])
theorem mapN_snoc {H : Type} (ns : List BL) (n : BL) : mapN (H := H) (ns ++ [n]) = (mapN ns).put (.string n) (.lit (.bool true)) := by simp [mapN, addN, List.foldl_append]
theorem mapN_is {H : Type} (ns : List BL) : IsMap (mapN (H := H) ns) := by
  rcases ns.eq_nil_or_concat with rfl | ⟨e, s, rfl⟩
  · exact ⟨[], rfl⟩
  · rw [List.concat_eq_append, mapN_snoc]; obtain ⟨x, hx⟩ := mapN_is (H := H) e; rw [hx]; exact ⟨_, rfl⟩
termination_by ns.length
theorem mapN_at {H : Type} (n : BL) (ns : List BL) : (mapN (H := H) ns).atKey (.string n) (.lit (.bool false)) = .lit (.bool (decide (n ∈ ns))) := by
  rcases ns.eq_nil_or_concat with rfl | ⟨e, s, rfl⟩
  · rfl
  · have ih := mapN_at (H := H) n e
    rw [List.concat_eq_append, mapN_snoc]
    by_cases h : n = s
    · subst h
      rw [atKey_put_same (mapN_is e) (by trivial)]
      simp
    · rw [atKey_put_other (by simpa using h), ih]
      simp [h]
termination_by ns.length

theorem keyedS : Keyed Try.prog 9 := string_keyed Try.underlying9
theorem zeroB (w : World) : (zeroValue 4).run Try.prog w = .ok (.bool false) w := by kernel_rfl
theorem keyS (l : BL) (h : l.length ≤ maxLen) : keyOf Try.prog 9 (.string (ba l)) = some (.string l) := by
  have := keyOf_string_mk (P := Try.prog) Try.underlying9 (s := ba l) (by rw [ba_size]; exact h)
  exact this
def Bad (w : World) (b : Nat) : Prop := w.ownsMap Try.prog 9 (plainElem (H := Unit) Try.prog 4) b 9 (mapN unsafeN)
theorem Bad.below {w w' : World} {b : Nat} (h : Bad w b) (hb : Below w.heap.size w w') : Bad w' b := by
  have h' : w.ownsMap Try.prog 9 (plainElem (H := Unit) Try.prog 4) b 9 (mapN unsafeN) := h
  have hlt := h'.lt
  obtain ⟨es, clock, hm, F, hs, hD⟩ := h'
  exact ⟨es, clock, (hb.block b hlt).trans hm, F, hs, hD⟩
theorem Bad.look {w : World} {b : Nat} (h : Bad w b) (l : BL) (hl : l.length ≤ maxLen) : (Instr.lookup 48 (.map (some b)) (.string (ba l)) false).run Try.prog w = .ok (.bool (badN l)) w := by
  obtain ⟨c, hrun, hat⟩ := World.ownsMap.lookup_bool (P := Try.prog) h keyedS Try.underlying48 Try.underlying4 (zeroB w) (keyS l hl)
  rw [mapN_at] at hat
  rw [hrun]
  have : decide (l ∈ unsafeN) = c := by simpa using hat
  unfold badN
  rw [this]

theorem insS {w' : World} {b n : Nat} {ns : List BL} {x : BL} (h : w'.ownsMap Try.prog 9 (plainElem (H := Unit) Try.prog 4) b n ((mapN ns).put (.string x) (.lit (.bool true)))) : w'.ownsMap Try.prog 9 (plainElem (H := Unit) Try.prog 4) b n (mapN (ns ++ [x])) := by
  rw [mapN_snoc]; exact h

set_option maxHeartbeats 1000000 in
theorem notSafe_any (w : World) :
    Calls Try.prog 36 #[] w fun e' w' => e' = .returned (.map (some w.heap.size)) ∧ Bad w' w.heap.size ∧ Below w.heap.size w w' := by
  have hmm := @run_makeMap Try.prog
  have HO := hid (show (w.alloc (.map #[] 0)).ownsMap Try.prog 9 (plainElem (H := Unit) Try.prog 4) w.heap.size 0 (mapN []) from World.ownsMap_made _ _ _ _)
  have HB := hid (show Below w.heap.size w (w.alloc (.map #[] 0)) from bal _)
  obtain ⟨W1, hrun1, ho1, hg1⟩ := HO.out.update keyedS Try.underlying48 (by decide) (show keyOf Try.prog 9 (.string (ByteArray.mk #[76, 68, 95, 76, 73, 66, 82, 65, 82, 89, 95, 80, 65, 84, 72])) = some (.string [76, 68, 95, 76, 73, 66, 82, 65, 82, 89, 95, 80, 65, 84, 72]) from keyS [76, 68, 95, 76, 73, 66, 82, 65, 82, 89, 95, 80, 65, 84, 72] (by decide)) (plainElem_bool Try.underlying4 true)
  have HO := hid (insS ho1)
  have HB := hid (HB.out.grown hg1 HB.out.size (fun k hk => by cases hk; exact Nat.le_refl _))
  clear ho1 hg1
  obtain ⟨W2, hrun2, ho2, hg2⟩ := HO.out.update keyedS Try.underlying48 (by decide) (show keyOf Try.prog 9 (.string (ByteArray.mk #[76, 68, 95, 80, 82, 69, 76, 79, 65, 68])) = some (.string [76, 68, 95, 80, 82, 69, 76, 79, 65, 68]) from keyS [76, 68, 95, 80, 82, 69, 76, 79, 65, 68] (by decide)) (plainElem_bool Try.underlying4 true)
  have HO := hid (insS ho2)
  have HB := hid (HB.out.grown hg2 HB.out.size (fun k hk => by cases hk; exact Nat.le_refl _))
  clear ho2 hg2
  obtain ⟨W3, hrun3, ho3, hg3⟩ := HO.out.update keyedS Try.underlying48 (by decide) (show keyOf Try.prog 9 (.string (ByteArray.mk #[76, 68, 95, 65, 85, 68, 73, 84])) = some (.string [76, 68, 95, 65, 85, 68, 73, 84]) from keyS [76, 68, 95, 65, 85, 68, 73, 84] (by decide)) (plainElem_bool Try.underlying4 true)
  have HO := hid (insS ho3)
  have HB := hid (HB.out.grown hg3 HB.out.size (fun k hk => by cases hk; exact Nat.le_refl _))
  clear ho3 hg3
  obtain ⟨W4, hrun4, ho4, hg4⟩ := HO.out.update keyedS Try.underlying48 (by decide) (show keyOf Try.prog 9 (.string (ByteArray.mk #[76, 68, 95, 68, 69, 66, 85, 71])) = some (.string [76, 68, 95, 68, 69, 66, 85, 71]) from keyS [76, 68, 95, 68, 69, 66, 85, 71] (by decide)) (plainElem_bool Try.underlying4 true)
  have HO := hid (insS ho4)
  have HB := hid (HB.out.grown hg4 HB.out.size (fun k hk => by cases hk; exact Nat.le_refl _))
  clear ho4 hg4
  obtain ⟨W5, hrun5, ho5, hg5⟩ := HO.out.update keyedS Try.underlying48 (by decide) (show keyOf Try.prog 9 (.string (ByteArray.mk #[76, 68, 95, 79, 82, 73, 71, 73, 78, 95, 80, 65, 84, 72])) = some (.string [76, 68, 95, 79, 82, 73, 71, 73, 78, 95, 80, 65, 84, 72]) from keyS [76, 68, 95, 79, 82, 73, 71, 73, 78, 95, 80, 65, 84, 72] (by decide)) (plainElem_bool Try.underlying4 true)
  have HO := hid (insS ho5)
  have HB := hid (HB.out.grown hg5 HB.out.size (fun k hk => by cases hk; exact Nat.le_refl _))
  clear ho5 hg5
  obtain ⟨W6, hrun6, ho6, hg6⟩ := HO.out.update keyedS Try.underlying48 (by decide) (show keyOf Try.prog 9 (.string (ByteArray.mk #[76, 68, 95, 80, 82, 79, 70, 73, 76, 69])) = some (.string [76, 68, 95, 80, 82, 79, 70, 73, 76, 69]) from keyS [76, 68, 95, 80, 82, 79, 70, 73, 76, 69] (by decide)) (plainElem_bool Try.underlying4 true)
  have HO := hid (insS ho6)
  have HB := hid (HB.out.grown hg6 HB.out.size (fun k hk => by cases hk; exact Nat.le_refl _))
  clear ho6 hg6
  obtain ⟨W7, hrun7, ho7, hg7⟩ := HO.out.update keyedS Try.underlying48 (by decide) (show keyOf Try.prog 9 (.string (ByteArray.mk #[76, 68, 95, 85, 83, 69, 95, 76, 79, 65, 68, 95, 66, 73, 65, 83])) = some (.string [76, 68, 95, 85, 83, 69, 95, 76, 79, 65, 68, 95, 66, 73, 65, 83]) from keyS [76, 68, 95, 85, 83, 69, 95, 76, 79, 65, 68, 95, 66, 73, 65, 83] (by decide)) (plainElem_bool Try.underlying4 true)
  have HO := hid (insS ho7)
  have HB := hid (HB.out.grown hg7 HB.out.size (fun k hk => by cases hk; exact Nat.le_refl _))
  clear ho7 hg7
  obtain ⟨W8, hrun8, ho8, hg8⟩ := HO.out.update keyedS Try.underlying48 (by decide) (show keyOf Try.prog 9 (.string (ByteArray.mk #[71, 67, 79, 78, 86, 95, 80, 65, 84, 72])) = some (.string [71, 67, 79, 78, 86, 95, 80, 65, 84, 72]) from keyS [71, 67, 79, 78, 86, 95, 80, 65, 84, 72] (by decide)) (plainElem_bool Try.underlying4 true)
  have HO := hid (insS ho8)
  have HB := hid (HB.out.grown hg8 HB.out.size (fun k hk => by cases hk; exact Nat.le_refl _))
  clear ho8 hg8
  obtain ⟨W9, hrun9, ho9, hg9⟩ := HO.out.update keyedS Try.underlying48 (by decide) (show keyOf Try.prog 9 (.string (ByteArray.mk #[84, 77, 80, 68, 73, 82])) = some (.string [84, 77, 80, 68, 73, 82]) from keyS [84, 77, 80, 68, 73, 82] (by decide)) (plainElem_bool Try.underlying4 true)
  have HO := hid (insS ho9)
  have HB := hid (HB.out.grown hg9 HB.out.size (fun k hk => by cases hk; exact Nat.le_refl _))
  clear ho9 hg9
  go_enter Try.func36, Try.ntmps36
  go_wp2_with fail
  go_ret
  exact ⟨rfl, HO.out, HB.out⟩
end Go.Proofs.Ytoikoljadgnebaa
