/- Regions: the two ways to take away and to turn come to the same. No walk. -/
import Derived.Test.YtcafmhhfnleanaaIk
import Derived.Test.YtcafmhhfnleanaaIa
namespace Go.Proofs.Ytcafmhhfnleanaa
open Go.RowKit Go.Sort

theorem join_apart {a b : RG} (h : a.to ≠ b.fr) : joinB a b = false := by
  unfold joinB
  have : (a.to == b.fr) = false := by simpa using h
  rw [this]
  simp
theorem joinR_acc (l : List RG) : ∀ acc : List RG, (acc ++ l).Pairwise (fun a b => joinB a b = false) → l.foldl joinStep acc = acc ++ l := by
  induction l with
  | nil => intro acc _; simp
  | cons x l ih =>
    intro acc h
    have e : joinStep acc x = acc ++ [x] := by
      rcases List.eq_nil_or_concat acc with rfl | ⟨init, z, rfl⟩
      · rfl
      · rw [List.concat_eq_append, joinStep_some]
        have hz : joinB z x = false := by
          have h2 := (List.pairwise_append.1 h).2.2
          exact h2 z (by simp) x (by simp)
        rw [hz]
        rfl
    rw [List.foldl_cons, e, ih _ (by simpa using h)]
    simp
theorem joinR_id {l : List RG} (h : l.Pairwise fun a b => joinB a b = false) : joinR l = l := by
  have := joinR_acc l [] (by simpa using h)
  simpa [joinR] using this

theorem right_pw {l : List RG} (h : rightB l = true) : l.Pairwise fun x y => x.to ≤ y.fr ∧ joinB x y = false := by
  rw [List.pairwise_iff_getElem]
  intro i j hi hj hij
  refine ⟨right_sorted h i j hij hj, ?_⟩
  by_cases e : j = i + 1
  · subst e; exact (right_next h i hj).2
  · have h1 := right_sorted h i (i + 1) (by omega) (by omega)
    have h2 := may_parts (right_may h (i + 1) (by omega))
    have h3 := right_sorted h (i + 1) j (by omega) hj
    exact join_apart (by omega)
theorem wu_eq (a b : Int) (h : a % 18446744073709551616 = b % 18446744073709551616) : IntKind.u64.wrap a = IntKind.u64.wrap b := by
  rw [show IntKind.u64.wrap a = a % 18446744073709551616 by simp [IntKind.wrap, IntKind.signed, IntKind.bits], show IntKind.u64.wrap b = b % 18446744073709551616 by simp [IntKind.wrap, IntKind.signed, IntKind.bits]]
  exact h
theorem wu_def (a : Int) : IntKind.u64.wrap a = a % 18446744073709551616 := by simp [IntKind.wrap, IntKind.signed, IntKind.bits]
/-- The end of a region counts alone. -/
theorem join_left (x b : RG) (t : Int) : joinB (partW x t x.to) b = joinB x b := by
  unfold joinB partW wU
  simp only
  by_cases hi : x.ino = -1
  · simp [hi]
  · have h1 : (x.ino != -1) = true := by simpa using hi
    have e : IntKind.u64.wrap (IntKind.u64.wrap (x.off + IntKind.u64.wrap (t - x.fr)) + IntKind.u64.wrap (x.to - t)) = IntKind.u64.wrap (x.off + IntKind.u64.wrap (x.to - x.fr)) := by
      simp only [wu_def]
      omega
    simp only [h1, if_true, e]
theorem join_right (a y : RG) (f : Int) (hy : Good y) : joinB a (partW y y.fr f) = joinB a y := by
  have := off_same y hy
  unfold joinB partW
  simp only [this]
theorem wo_join (x y a b : RG) (f t : Int) (hx : Good x) (hy : Good y) (hft : f < t) (hxy : x.to ≤ y.fr) (hj : joinB x y = false) (ha : a ∈ woP x f t) (hb : b ∈ woP y f t) : joinB a b = false := by
  have hx1 := hx.lt
  have hy1 := hy.lt
  have Ha : a = x ∨ (a = partW x x.fr f ∧ f < x.to) ∨ a = partW x t x.to := by
    unfold woP at ha
    split at ha
    · exact .inl (by simpa using ha)
    · rcases List.mem_append.1 ha with h | h
      · split at h
        · exact .inr (.inl ⟨by simpa using h, by omega⟩)
        · cases h
      · split at h
        · exact .inr (.inr (by simpa using h))
        · cases h
  have Hb : b = y ∨ b = partW y y.fr f ∨ (b = partW y t y.to ∧ y.fr < t) := by
    unfold woP at hb
    split at hb
    · exact .inl (by simpa using hb)
    · rcases List.mem_append.1 hb with h | h
      · split at h
        · exact .inr (.inl (by simpa using h))
        · cases h
      · split at h
        · exact .inr (.inr ⟨by simpa using h, by omega⟩)
        · cases h
  rcases Hb with rfl | rfl | ⟨rfl, hb2⟩
  · rcases Ha with rfl | ⟨rfl, h2⟩ | rfl
    · exact hj
    · exact join_apart (by simp only [partW]; omega)
    · rw [join_left]; exact hj
  · rw [join_right _ _ _ hy]
    rcases Ha with rfl | ⟨rfl, h2⟩ | rfl
    · exact hj
    · exact join_apart (by simp only [partW]; omega)
    · rw [join_left]; exact hj
  · rcases Ha with rfl | ⟨rfl, h2⟩ | rfl
    · exact join_apart (by simp only [partW]; omega)
    · exact join_apart (by simp only [partW]; omega)
    · exact join_apart (by simp only [partW]; omega)
theorem wo_self (x : RG) (f t : Int) (hft : f < t) : (woP x f t).Pairwise fun a b => joinB a b = false := by
  unfold woP
  split
  · simp
  · rw [List.pairwise_append]
    refine ⟨by split <;> simp, by split <;> simp, fun a ha b hb => ?_⟩
    split at ha
    · split at hb
      · simp only [List.mem_singleton] at ha hb
        subst ha hb
        exact join_apart (by simp only [partW]; omega)
      · cases hb
    · cases ha
theorem wo_id {l : List RG} (h : rightB l = true) (hok : ∀ x ∈ l, RGok x) (f t : Int) (hft : f < t) : joinR (woR l f t) = woR l f t := by
  have hg := good_list h hok
  refine joinR_id ?_
  unfold woR
  rw [List.pairwise_flatMap]
  refine ⟨fun x _ => wo_self x f t hft, ?_⟩
  refine (right_pw h).imp_of_mem ?_
  intro x y hx hy hxy a ha b hb
  exact wo_join x y a b f t (hg x hx) (hg y hy) hft hxy.1 hxy.2 ha hb
end Go.Proofs.Ytcafmhhfnleanaa
