
/- Layout, plain: what placed objects have to do with each other. -/
import Derived.Test.YtkpopdkkobelaaaLaM
import Derived.Test.YtkpopdkkobelaaaLaX
namespace Go.Proofs.Ytkpopdkkobelaaa
open Go.RowKit

def frL (y : LO) : Int := y.base + ((lds y.sg).head?.getD default).addr
def toL (y : LO) : Int := y.base + ((lds y.sg).getLast?.getD default).addr + ((lds y.sg).getLast?.getD default).msz
theorem ends_of {w : World} {y : LO} (hy : LOk w y) (hr : rightB y.ino y.typ y.sg = true) (hb : y.base % 4096 = 0) (hl : liesB y.base (lds y.sg) = true) :
    (exOf y).1 = dn (frL y) ∧ (exOf y).2 = upI (toL y) ∧ frL y < toL y ∧ 0 ≤ frL y ∧ toL y ≤ 140737488355328 := by
  have hne := (rightB_of hr).2.2.2.1
  have hL := rightB_loads hy.ok hr
  have hsp := hy.span hr
  have h0 := hy.b0
  have hl2 := of_decide_eq_true hl
  unfold exOf frL toL
  dsimp only
  unfold lowS highS at *
  obtain ⟨s, r, hs, _⟩ := head_of hne
  obtain ⟨q, z, hz, _⟩ := last_of hne
  have e1 : (lds y.sg).head?.getD default = s := by rw [hs]; rfl
  have e2 : (lds y.sg).getLast?.getD default = z := by rw [hz, List.getLast?_append]; rfl
  simp only [e1, e2] at hsp hl2 ⊢
  have m1 := hL.ok s (by rw [hs]; exact List.mem_cons_self ..)
  have m2 := hL.ok z (by rw [hz]; simp)
  have h3 : s.addr < z.addr + z.msz := by
    unfold upI dn at hsp
    rcases Nat.eq_zero_or_pos q.length with e | e
    · have : q = [] := List.eq_nil_of_length_eq_zero e
      subst this
      rw [hs] at hz
      simp at hz
      rw [← hz.1]
      omega
    · have hl3 : q.length < (lds y.sg).length := by rw [hz]; simp
      have h4 := hL.rise (i := 0) (j := q.length) e hl3
      have e3 : (lds y.sg)[q.length] = z := by simp only [hz]; simp
      have e4 : (lds y.sg)[0]'(by omega) = s := by simp only [hs, List.getElem_cons_zero]
      rw [e3, e4] at h4
      unfold upI dn at h4
      omega
  unfold upI dn at *
  omega

theorem pl_facts {w : World} {xs : List LO} (hx : ∀ x ∈ xs, LOk w x) (hr : RtTo xs xs.length) (h8 : xs.length ≤ 8) (k : Nat) (hk : k < xs.length) :
    (plAll xs 0 139637976727552)[k]'(by rw [plAll_len]; exact hk) = placedL xs[k] (decide (k = 0)) (plEnd (xs.take k) 0 139637976727552) ∧
    plEnd (xs.take (k + 1)) 0 139637976727552 = (if 0 < k then (exOf ((plAll xs 0 139637976727552)[k]'(by rw [plAll_len]; exact hk))).2 + 4096 else plEnd (xs.take k) 0 139637976727552) ∧
    (0 < k → (exOf ((plAll xs 0 139637976727552)[k]'(by rw [plAll_len]; exact hk))).1 = plEnd (xs.take k) 0 139637976727552 ∧ plEnd (xs.take k) 0 139637976727552 ≤ (exOf ((plAll xs 0 139637976727552)[k]'(by rw [plAll_len]; exact hk))).2) ∧
    (plEnd (xs.take k) 0 139637976727552 % 4096 = 0 → ((plAll xs 0 139637976727552)[k]'(by rw [plAll_len]; exact hk)).base % 4096 = 0 ∧ (exOf ((plAll xs 0 139637976727552)[k]'(by rw [plAll_len]; exact hk))).2 % 4096 = 0) := by
  have hg := plAll_get xs k hk
  have hri := hr k hk
  rw [getD_lo hk] at hri
  unfold rtAt rtO at hri
  rw [Bool.and_eq_true, Bool.or_eq_true, decide_eq_true_eq, decide_eq_true_eq] at hri
  have hl := lib_ok hx hr h8 k (by omega)
  have hLO := hx _ (List.getElem_mem hk)
  have hp := placed_ok hLO hri.1 (decide (k = 0)) _ (fun hm => by
    rcases hri.2 with h | h
    · rw [decide_eq_false_iff_not] at hm; exact absurd h hm
    · exact h) hl.1 hl.2
  have hsp := hLO.span hri.1
  have hE : plEnd (xs.take (k + 1)) 0 139637976727552 = if 0 < k then (exOf (placedL xs[k] (decide (k = 0)) (plEnd (xs.take k) 0 139637976727552))).2 + 4096 else plEnd (xs.take k) 0 139637976727552 := by
    rw [List.take_succ_eq_append_getElem hk, plEnd_snoc]
    have : 0 + (xs.take k).length = k := by rw [List.length_take]; omega
    rw [this]
  rw [hg]
  refine ⟨rfl, hE, fun h0 => ?_, fun ha => ?_⟩
  · have hm : decide (k = 0) = false := decide_eq_false (by omega)
    have h3 : xs[k].typ = 3 := by
      rcases hri.2 with h | h
      · omega
      · exact h
    have hfin : finOf xs[k].typ = 4294967296 := by rw [h3]; rfl
    refine ⟨?_, (hp.2.2.2.2.2 hm).1⟩
    rw [hm]
    unfold placedL atL exOf
    rw [if_pos rfl]
    dsimp only
    rw [w64_in (by omega) (by omega)]
    omega
  · have hfin : xs[k].typ = 3 → finOf xs[k].typ = 4294967296 := fun h3 => by rw [h3]; rfl
    by_cases hm : k = 0
    · rw [decide_eq_true hm]
      unfold placedL atL exOf
      rw [if_neg (by simp)]
      by_cases h3 : xs[k].typ = 3
      · have := hfin h3
        rw [if_pos h3]
        dsimp only
        rw [w64_in (by omega) (by omega)]
        omega
      · rw [if_neg h3]
        dsimp only
        omega
    · have h3 : xs[k].typ = 3 := by
        rcases hri.2 with h | h
        · exact absurd h hm
        · exact h
      have := hfin h3
      rw [decide_eq_false hm]
      unfold placedL atL exOf
      rw [if_pos rfl]
      dsimp only
      rw [w64_in (by omega) (by omega)]
      omega
theorem pl_page {w : World} {xs : List LO} (hx : ∀ x ∈ xs, LOk w x) (hr : RtTo xs xs.length) (h8 : xs.length ≤ 8) : ∀ k, k ≤ xs.length → plEnd (xs.take k) 0 139637976727552 % 4096 = 0
  | 0, _ => by simp [plEnd]
  | k + 1, h => by
    have ih := pl_page hx hr h8 k (by omega)
    obtain ⟨_, h2, _, h4⟩ := pl_facts hx hr h8 k (by omega)
    rw [h2]
    have := (h4 ih).2
    split <;> omega
theorem pl_mono {w : World} {xs : List LO} (hx : ∀ x ∈ xs, LOk w x) (hr : RtTo xs xs.length) (h8 : xs.length ≤ 8) (k : Nat) : ∀ d, k + d ≤ xs.length → plEnd (xs.take k) 0 139637976727552 ≤ plEnd (xs.take (k + d)) 0 139637976727552
  | 0, _ => Int.le_refl _
  | d + 1, h => by
    have ih := pl_mono hx hr h8 k d (by omega)
    obtain ⟨_, h2, h3, _⟩ := pl_facts hx hr h8 (k + d) (by omega)
    rw [show k + (d + 1) = k + d + 1 by omega, h2]
    split
    · rename_i h0
      have := h3 h0
      omega
    · exact ih
/-- All that the law wants of the list of placed objects. -/
structure AllOk (all : List LO) (n : Nat) : Prop where
  right : ∀ i (h : i < all.length), rightB all[i].ino all[i].typ all[i].sg = true
  page : ∀ i (h : i < all.length), all[i].base % 4096 = 0
  ends : ∀ i (h : i < all.length), (exOf all[i]).1 = dn (frL all[i]) ∧ (exOf all[i]).2 = upI (toL all[i]) ∧ frL all[i] < toL all[i] ∧ 0 ≤ frL all[i] ∧ toL all[i] ≤ 140737488355328
  stack : ∀ i (h : i < all.length), meetB (exOf all[i]) stackX = false
  apart : ∀ i k (h : i < all.length) (hk : k < i), meetB (exOf all[i]) (exOf (all[k]'(by omega))) = false
  order : ∀ i k (h : i < all.length) (hk : k < i), 0 < k → i < n → (exOf (all[k]'(by omega))).2 + 4096 ≤ (exOf all[i]).1
theorem all_pl {w : World} {xs : List LO} (hx : ∀ x ∈ xs, LOk w x) (hr : rightL xs = true) (hh : hitAll [] ((plAll xs 0 139637976727552).map exOf) = false) : AllOk (plAll xs 0 139637976727552) xs.length := by
  obtain ⟨_, h8, hrt⟩ := rightL_of hr
  have hlen : (plAll xs 0 139637976727552).length = xs.length := plAll_len _ _ _
  have hpage : ∀ i (h : i < (plAll xs 0 139637976727552).length), (plAll xs 0 139637976727552)[i].base % 4096 = 0 := fun i h => ((pl_facts hx hrt h8 i (by omega)).2.2.2 (pl_page hx hrt h8 i (by omega))).1
  have hno : ∀ i (h : i < (plAll xs 0 139637976727552).length), hitE (plAll xs 0 139637976727552) i = false := fun i h => by
    cases he : hitE (plAll xs 0 139637976727552) i
    · rfl
    · have := hit_yes h he
      rw [hh] at this
      cases this
  refine ⟨fun i h => (plAll_ok hx hrt h8 i h).2.1, hpage, fun i h => ?_, fun i h => ?_, fun i k h hk => ?_, fun i k h hk h0 hn => ?_⟩
  · have := plAll_ok hx hrt h8 i h
    exact ends_of this.1 this.2.1 (hpage i h) this.2.2
  · cases he : meetB (exOf (plAll xs 0 139637976727552)[i]) stackX
    · rfl
    · have h1 := hno i h
      rw [hitE_stack h he] at h1
      cases h1
  · cases he : meetB (exOf (plAll xs 0 139637976727552)[i]) (exOf ((plAll xs 0 139637976727552)[k]'(by omega)))
    · rfl
    · have h1 := hno i h
      rw [hitE_meet h hk he] at h1
      cases h1
  · obtain ⟨_, a2, _, _⟩ := pl_facts hx hrt h8 k (by omega)
    obtain ⟨_, _, b3, _⟩ := pl_facts hx hrt h8 i (by omega)
    have hm := pl_mono hx hrt h8 (k + 1) (i - (k + 1)) (by omega)
    rw [show k + 1 + (i - (k + 1)) = i by omega, a2, if_pos h0] at hm
    rw [(b3 (by omega)).1]
    exact hm
theorem all_snoc {w : World} {out : List LO} {z : LO} {n : Nat} (h : AllOk out n) (hn : n ≤ out.length) (hz : LOk w z) (hr : rightB z.ino z.typ z.sg = true) (hb : z.base % 4096 = 0) (hl : liesB z.base (lds z.sg) = true) (hm : (stackX :: out.map exOf).any (meetB (exOf z)) = false) : AllOk (out ++ [z]) n := by
  have hlast : ∀ i (h : i < (out ++ [z]).length), ¬ i < out.length → (out ++ [z])[i] = z := fun i h hi => by
    rw [List.getElem_append_right (by omega)]
    have : i - out.length = 0 := by rw [List.length_append, List.length_singleton] at h; omega
    simp [this]
  rw [List.any_cons, Bool.or_eq_false_iff, List.any_eq_false] at hm
  refine ⟨fun i hi => ?_, fun i hi => ?_, fun i hi => ?_, fun i hi => ?_, fun i k hi hk => ?_, fun i k hi hk h0 hin => ?_⟩
  · by_cases hl2 : i < out.length
    · rw [List.getElem_append_left hl2]; exact h.right i hl2
    · rw [hlast i hi hl2]; exact hr
  · by_cases hl2 : i < out.length
    · rw [List.getElem_append_left hl2]; exact h.page i hl2
    · rw [hlast i hi hl2]; exact hb
  · by_cases hl2 : i < out.length
    · rw [List.getElem_append_left hl2]; exact h.ends i hl2
    · rw [hlast i hi hl2]; exact ends_of hz hr hb hl
  · by_cases hl2 : i < out.length
    · rw [List.getElem_append_left hl2]; exact h.stack i hl2
    · rw [hlast i hi hl2]; exact hm.1
  · by_cases hl2 : i < out.length
    · rw [List.getElem_append_left hl2, List.getElem_append_left (show k < out.length by omega)]; exact h.apart i k hl2 hk
    · rw [hlast i hi hl2]
      have hk2 : k < out.length := by rw [List.length_append, List.length_singleton] at hi; omega
      rw [List.getElem_append_left hk2]
      have := hm.2 (exOf out[k]) (List.mem_map.2 ⟨_, List.getElem_mem hk2, rfl⟩)
      simpa using this
  · have hl2 : i < out.length := by omega
    rw [List.getElem_append_left hl2, List.getElem_append_left (show k < out.length by omega)]
    exact h.order i k hl2 hk h0 hin
/-- The tests on one object, and on two. -/
theorem one_ok {all : List LO} {n : Nat} (h : AllOk all n) {i : Nat} (hi : i < all.length) : ¬ (frL all[i] < 140737488351232 ∧ 140737488334848 < toL all[i]) := by
  have h1 := h.ends i hi
  have h2 := h.stack i hi
  unfold meetB stackX at h2
  dsimp only at h2
  rw [Bool.and_eq_false_iff, decide_eq_false_iff_not, decide_eq_false_iff_not] at h2
  rw [h1.1, h1.2.1] at h2
  unfold upI dn at h2
  omega
theorem two_ok {all : List LO} {n : Nat} (h : AllOk all n) {i k : Nat} (hi : i < all.length) (hk : k < i) : ¬ (frL all[i] / 4096 ≤ (toL (all[k]'(by omega)) - 1) / 4096 ∧ frL (all[k]'(by omega)) / 4096 ≤ (toL all[i] - 1) / 4096) ∧ (0 < k → i < n → ¬ frL all[i] ≤ toL (all[k]'(by omega))) := by
  have h1 := h.ends i hi
  have h3 := h.ends k (by omega)
  have h2 := h.apart i k hi hk
  unfold meetB at h2
  rw [Bool.and_eq_false_iff, decide_eq_false_iff_not, decide_eq_false_iff_not] at h2
  rw [h1.1, h1.2.1, h3.1, h3.2.1] at h2
  unfold upI dn at h2
  refine ⟨by omega, fun h0 hn => ?_⟩
  have h4 := h.order i k hi hk h0 hn
  rw [h1.1, h3.2.1] at h4
  unfold upI dn at h4
  omega
end Go.Proofs.Ytkpopdkkobelaaa
