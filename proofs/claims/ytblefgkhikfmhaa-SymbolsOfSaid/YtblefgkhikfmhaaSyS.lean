/- The reference: there, Value, Of. -/
import Derived.Test.YtblefgkhikfmhaaSyQ
namespace Go.Proofs.Ytblefgkhikfmhaa
open Go.RowKit Go.Sort Go.Shelf
attribute [local go_sem] Oper.semAt_some

set_option maxHeartbeats 4000000 in
theorem rthere_any (a : Option Addr) (len cap : Nat) (xs : List OB) (i k : Int) (w : World) (hO : Objs w a len xs) (hl : len ≤ 1000000000000) (hsn : ∀ x ∈ xs, x.sn ≤ 4000000000000) :
    Calls Try.prog 29 #[.slice a len cap, .int .i64 i, .int .i64 k] w fun e w' => e = .returned (.bool (findL (osL xs) i k).isSome) ∧ w' = w := by
  have hol : (osL xs).length = len := by rw [← hO.hlen]; simp [osL]
  go_enter Try.func29, Try.ntmps29
  by_cases hi : i < 0
  · have d1 : decide (0 ≤ i) = false := by simpa using hi
    have HF := hid (findL_neg (os := osL xs) (k := k) hi)
    clear hi
    go_wp2_with fail
    refine bodyPost_ret (results_tmp rfl _ _ _) rfl ⟨?_, rfl⟩
    rw [HF.out]; rfl
  · have d1 : decide (0 ≤ i) = true := by simpa using hi
    obtain ⟨i, rfl⟩ := Int.eq_ofNat_of_zero_le (Int.not_lt.1 hi)
    clear hi
    by_cases hlt : i < len
    · have d2 : decide ((i : Int) < (len : Int)) = true := by simp; omega
      obtain ⟨b, off, rfl, _, x6, x7, x8, x9, x10⟩ := hO.cells (i := i) (by rw [hO.hlen]; exact hlt)
      have HSL := hid (hO.sn (List.getElem_mem (n := i) (by rw [hO.hlen]; exact hlt)))
      have hsb := hsn _ (List.getElem_mem (n := i) (by rw [hO.hlen]; exact hlt))
      have HOS := hid (show (osL xs)[i]'(by rw [hol]; exact hlt) = toOS (xs[i]'(by rw [hO.hlen]; exact hlt)) by simp [osL])
      generalize xs[i]'(by rw [hO.hlen]; exact hlt) = x at *
      replace x9 : w.cell? ⟨b, off + i * 11 + 6 + 3, none⟩ = _ := x9
      have hbl := World.block_lt_of_cell? w _ x9
      dsimp only at hbl
      clear hsn x6 x7 x8 x10
      by_cases hk : k < 0
      · have d3 : decide (0 ≤ k) = false := by simpa using hk
        have HF := hid (findL_neg2 (os := osL xs) (i := i) hk)
        clear hk
        go_wp2_with fail
        refine bodyPost_ret (results_tmp rfl _ _ _) rfl ⟨?_, rfl⟩
        rw [HF.out]; rfl
      · have d3 : decide (0 ≤ k) = true := by simpa using hk
        obtain ⟨k, rfl⟩ := Int.eq_ofNat_of_zero_le (Int.not_lt.1 hk)
        clear hk
        have HFA := hid (show findL (osL xs) (i : Int) (k : Int) = x.sy[k]? by rw [findL_at (by rw [hol]; exact hlt), HOS.out]; rfl)
        by_cases hkt : k < x.sn
        · have d4 : decide ((k : Int) < (x.sn : Int)) = true := by simp; omega
          have HF := hid (show (findL (osL xs) (i : Int) (k : Int)).isSome = true by rw [HFA.out, List.getElem?_eq_getElem (by rw [HSL.out]; exact hkt)]; rfl)
          go_wp2_with fail
          refine bodyPost_ret (results_tmp rfl _ _ _) rfl ⟨?_, rfl⟩
          rw [HF.out]; simp
          try omega
        · have d4 : decide ((k : Int) < (x.sn : Int)) = false := by simp; omega
          have HF := hid (show (findL (osL xs) (i : Int) (k : Int)).isSome = false by rw [HFA.out, List.getElem?_eq_none (by rw [HSL.out]; omega)]; rfl)
          go_wp2_with fail
          refine bodyPost_ret (results_tmp rfl _ _ _) rfl ⟨?_, rfl⟩
          rw [HF.out]; simp
          try omega
    · have d2 : decide ((i : Int) < (len : Int)) = false := by simp; omega
      have HF := hid (show (findL (osL xs) (i : Int) k).isSome = false by rw [findL_out (os := osL xs) (i := i) (k := k) (by omega)]; rfl)
      go_wp2_with fail
      refine bodyPost_ret (results_tmp rfl _ _ _) rfl ⟨?_, rfl⟩
      rw [HF.out]
      simp
      try omega

set_option maxHeartbeats 4000000 in
theorem rvalue_any (a : Option Addr) (len cap : Nat) (xs : List OB) (i k : Int) (w : World) (hO : Objs w a len xs) (hl : len ≤ 1000000000000) (hsn : ∀ x ∈ xs, x.sn ≤ 4000000000000) :
    Calls Try.prog 25 #[.slice a len cap, .int .i64 i, .int .i64 k] w fun e w' => e = .returned (.int .u64 (valL (osL xs) i k)) ∧ Below w.heap.size w w' := by
  have hol : (osL xs).length = len := by rw [← hO.hlen]; simp [osL]
  go_enter Try.func25, Try.ntmps25
  go_wp2_with fail
  refine (rthere_any a len cap xs i k w hO hl hsn).mono ?_
  rintro e' w1 ⟨rfl, hw⟩
  subst hw
  cases hF : findL (osL xs) i k with
  | none =>
    have HF := hid hF
    clear hF
    simp only [Option.isSome_none]
    go_wp2_with fail
    refine bodyPost_ret (results_tmp rfl _ _ _) rfl ⟨?_, Below.refl _ _⟩
    simp [valL, HF.out]
  | some s =>
    have HF := hid hF
    clear hF
    obtain ⟨i, k, rfl, rfl, hi, hs⟩ := findL_some HF.out
    have hlt : i < len := by rw [hol] at hi; exact hi
    obtain ⟨b, off, rfl, ⟨_, x1, _⟩, x6, x7, x8, x9, x10⟩ := hO.cells (i := i) (by rw [hO.hlen]; exact hlt)
    have HV := hid (show valL (osL xs) (i : Int) (k : Int) = addU (xs[i]'(by rw [hO.hlen]; exact hlt)).base s.value by
      unfold valL; rw [HF.out]; simp [osL, toOS, hO.hlen, hlt])
    have hsy := hO.syms _ (List.getElem_mem (n := i) (by rw [hO.hlen]; exact hlt))
    have hsl := hO.sn (List.getElem_mem (n := i) (by rw [hO.hlen]; exact hlt))
    have hsb := hsn _ (List.getElem_mem (n := i) (by rw [hO.hlen]; exact hlt))
    have hs' : (xs[i]'(by rw [hO.hlen]; exact hlt)).sy[k]? = some s := by rw [← hs]; simp [osL, toOS]
    generalize xs[i]'(by rw [hO.hlen]; exact hlt) = x at *
    obtain ⟨hk, hsk⟩ := List.getElem?_eq_some_iff.1 hs'
    obtain ⟨bs, os, es, y0, y1, y2, y3, y4⟩ := sy_cells hsy hk
    rw [hsk] at y0 y1 y2 y3 y4
    rw [hsl] at hk
    replace x9 : w1.cell? ⟨b, off + i * 11 + 6 + 3, none⟩ = _ := x9
    rw [es] at x9
    have hbl := World.block_lt_of_cell? w1 _ x1
    have hbs := World.block_lt_of_cell? w1 _ y1
    dsimp only at hbl hbs
    clear hO hsn hol hi hs hs' hsk x6 x7 x8 x10 hsy
    simp only [Option.isSome_some]
    go_wp2_with fail
    go_quiet (fail)
    go_wp2_with fail
    refine bodyPost_ret (results_tmp rfl _ _ _) rfl ⟨?_, bdN (Below.refl _ _) _⟩
    rw [HV.out]; rfl
end Go.Proofs.Ytblefgkhikfmhaa
