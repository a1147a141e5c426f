/- symbols.find, Value. -/
import Derived.Test.YtblefgkhikfmhaaSyB
import Derived.IntWalk
namespace Go.Proofs.Ytblefgkhikfmhaa
open Go.RowKit Go.Sort Go.Shelf
attribute [local go_sem] Oper.semAt_some

def zSY : SY := ⟨[], 0, 0, 0, false⟩
def findL (os : List OS) (i k : Int) : Option SY := if i < 0 ∨ k < 0 then none else (os[i.toNat]?).bind fun o => o.sy[k.toNat]?
def findV (o : Option SY) : Value := .tuple #[syV (o.getD zSY), .bool o.isSome]
def addU (a b : Int) : Int := IntKind.u64.wrap (a + b)
def valL (os : List OS) (i k : Int) : Int := match findL os i k with
  | some s => addU (os.getD i.toNat default).base s.value
  | none => 0
theorem findL_neg {os : List OS} {i k : Int} (h : i < 0) : findL os i k = none := by unfold findL; rw [if_pos (.inl h)]
theorem findL_neg2 {os : List OS} {i k : Int} (h : k < 0) : findL os i k = none := by unfold findL; rw [if_pos (.inr h)]
theorem findL_out {os : List OS} {i k : Int} (h : (os.length : Int) ≤ i) : findL os i k = none := by
  unfold findL; split
  · rfl
  · rw [List.getElem?_eq_none (by omega)]; rfl
theorem findL_at {os : List OS} {i k : Nat} (hi : i < os.length) : findL os i k = os[i].sy[k]? := by
  unfold findL
  rw [if_neg (by omega)]
  simp [List.getElem?_eq_getElem hi]

theorem findL_some {os : List OS} {i k : Int} {s : SY} (h : findL os i k = some s) : ∃ n m : Nat, i = n ∧ k = m ∧ ∃ hn : n < os.length, os[n].sy[m]? = some s := by
  unfold findL at h
  split at h
  · cases h
  · rename_i hn
    obtain ⟨n, rfl⟩ := Int.eq_ofNat_of_zero_le (show 0 ≤ i by omega)
    obtain ⟨m, rfl⟩ := Int.eq_ofNat_of_zero_le (show 0 ≤ k by omega)
    refine ⟨n, m, rfl, rfl, ?_⟩
    simp only [Int.toNat_natCast] at h
    by_cases hl : n < os.length
    · rw [List.getElem?_eq_getElem hl] at h; exact ⟨hl, h⟩
    · rw [List.getElem?_eq_none (by omega)] at h; cases h
theorem results_find {W : World} {M : Nat} {tm : Array Value} {s : SY} {b : Bool} (h6 : tm[6]? = some (.pointer (some ⟨M, 0, none⟩))) (h7 : tm[7]? = some (.bool b)) (hr : Row W M 48 (syC s)) (ds : List Deferred) :
    (results Try.f26 tm).run Try.prog W = .ok (.tuple #[syV s, .bool b]) W := by
  have c0 := hr.cell 0 (by simp [syC])
  have c1 := hr.cell 1 (by simp [syC])
  have c2 := hr.cell 2 (by simp [syC])
  have c3 := hr.cell 3 (by simp [syC])
  have c4 := hr.cell 4 (by simp [syC])
  simp only [syC, List.getElem_cons_zero, List.getElem_cons_succ] at c0 c1 c2 c3 c4
  simp [results, Try.f26, Try.results26, go_sem, h6, h7, c0, c1, c2, c3, c4, syV]

set_option maxHeartbeats 4000000 in
theorem find_any (a : Option Addr) (len cap : Nat) (xs : List OB) (i k : Int) (w : World) (hO : Objs w a len xs) (hl : len ≤ 1000000000000) (hsn : ∀ x ∈ xs, x.sn ≤ 4000000000000) :
    Calls Try.prog 26 #[.slice a len cap, .int .i64 i, .int .i64 k] w fun e w' => e = .returned (findV (findL (osL xs) i k)) ∧ Below w.heap.size w w' := by
  have hol : (osL xs).length = len := by rw [← hO.hlen]; simp [osL]
  go_enter Try.func26, Try.ntmps26
  by_cases hi : i < 0
  · have d1 : decide (i < 0) = true := by simpa using hi
    have HF := hid (findL_neg (os := osL xs) (k := k) hi)
    clear hi
    go_wp2_with fail
    refine bodyPost_ret (results_find (s := zSY) (b := false) rfl rfl (Row.new w _ _) []) rfl ⟨?_, bal _⟩
    rw [HF.out]; rfl
  · have d1 : decide (i < 0) = false := by simpa using hi
    obtain ⟨i, rfl⟩ := Int.eq_ofNat_of_zero_le (Int.not_lt.1 hi)
    clear hi
    by_cases hlt : i < len
    · have d2 : decide ((len : Int) ≤ (i : Int)) = false := by simp; omega
      obtain ⟨b, off, rfl, _, x6, x7, x8, x9, x10⟩ := hO.cells (i := i) (by rw [hO.hlen]; exact hlt)
      have HSY := hid (hO.syms _ (List.getElem_mem (by rw [hO.hlen]; exact hlt)))
      have HSL := hid (hO.sn (List.getElem_mem (n := i) (by rw [hO.hlen]; exact hlt)))
      have hsb := hsn _ (List.getElem_mem (n := i) (by rw [hO.hlen]; exact hlt))
      have HOS := hid (show (osL xs)[i]'(by rw [hol]; exact hlt) = toOS (xs[i]'(by rw [hO.hlen]; exact hlt)) by simp [osL])
      generalize xs[i]'(by rw [hO.hlen]; exact hlt) = x at *
      replace x9 : w.cell? ⟨b, off + i * 11 + 6 + 3, none⟩ = _ := x9
      have hbl := World.block_lt_of_cell? w _ x9
      dsimp only at hbl
      clear hsn x6 x7 x8 x10
      by_cases hk : k < 0
      · have d3 : decide (k < 0) = true := by simpa using hk
        have HF := hid (findL_neg2 (os := osL xs) (i := i) hk)
        clear hk
        go_wp2_with fail
        refine bodyPost_ret (results_find (s := zSY) (b := false) rfl rfl (Row.new w _ _) []) rfl ⟨?_, bal _⟩
        rw [HF.out]; rfl
      · have d3 : decide (k < 0) = false := by simpa using hk
        obtain ⟨k, rfl⟩ := Int.eq_ofNat_of_zero_le (Int.not_lt.1 hk)
        clear hk
        have HFA := hid (show findL (osL xs) (i : Int) (k : Int) = x.sy[k]? by rw [findL_at (by rw [hol]; exact hlt), HOS.out]; rfl)
        by_cases hkt : k < x.sn
        · have d4 : decide ((x.sn : Int) ≤ (k : Int)) = false := by simp; omega
          have hql : k < x.sy.length := by rw [HSL.out]; exact hkt
          obtain ⟨bs, os, es, y0, y1, y2, y3, y4⟩ := sy_cells HSY.out hql
          have HF := hid (show findL (osL xs) (i : Int) (k : Int) = some x.sy[k] by rw [HFA.out, List.getElem?_eq_getElem hql])
          have hbs := World.block_lt_of_cell? w _ y0
          dsimp only at hbs
          generalize x.sy[k] = s at *
          clear HFA hql
          rw [es] at x9
          go_wp2_with fail
          refine bodyPost_ret (results_find (s := s) (b := true) rfl rfl (Row.new w _ _) []) rfl ⟨?_, bal _⟩
          rw [HF.out]; rfl
        · have d4 : decide ((x.sn : Int) ≤ (k : Int)) = true := by simp; omega
          have HF := hid (show findL (osL xs) (i : Int) (k : Int) = none by rw [HFA.out]; exact List.getElem?_eq_none (by rw [HSL.out]; omega))
          clear HFA
          go_wp2_with fail
          refine bodyPost_ret (results_find (s := zSY) (b := false) rfl rfl (Row.new w _ _) []) rfl ⟨?_, bal _⟩
          rw [HF.out]; rfl
    · have d2 : decide ((len : Int) ≤ (i : Int)) = true := by simp; omega
      have HF := hid (findL_out (os := osL xs) (i := i) (k := k) (by omega))
      go_wp2_with fail
      refine bodyPost_ret (results_find (s := zSY) (b := false) rfl rfl (Row.new w _ _) []) rfl ⟨?_, bal _⟩
      rw [HF.out]; rfl

theorem value_any (a : Option Addr) (len cap : Nat) (xs : List OB) (i k : Int) (w : World) (hO : Objs w a len xs) (hl : len ≤ 1000000000000) (hsn : ∀ x ∈ xs, x.sn ≤ 4000000000000) :
    Calls Try.prog 24 #[.slice a len cap, .int .i64 i, .int .i64 k] w fun e w' => e = .returned (.int .u64 (valL (osL xs) i k)) ∧ Below w.heap.size w w' := by
  have hol : (osL xs).length = len := by rw [← hO.hlen]; simp [osL]
  go_enter Try.func24, Try.ntmps24
  go_wp2_with fail
  refine (find_any a len cap xs i k w hO hl hsn).mono ?_
  rintro e' w1 ⟨rfl, hb⟩
  have HB := hid hb
  clear hb
  cases hF : findL (osL xs) i k with
  | none =>
    have HF := hid hF
    clear hF
    simp only [findV, Option.getD_none, Option.isSome_none, syV]
    go_wp2_with fail
    refine bodyPost_ret (results_tmp rfl _ _ _) rfl ⟨?_, HB.out.alloc HB.out.size _⟩
    simp [valL, HF.out]
  | some s =>
    have HF := hid hF
    clear hF
    obtain ⟨i, k, rfl, rfl, hi, hs⟩ := findL_some HF.out
    have hlt : i < len := by rw [hol] at hi; exact hi
    obtain ⟨b, off, rfl, ⟨_, x1, _⟩, _⟩ := hO.cells (i := i) (by rw [hO.hlen]; exact hlt)
    have HV := hid (show valL (osL xs) (i : Int) (k : Int) = addU (xs[i]'(by rw [hO.hlen]; exact hlt)).base s.value by
      unfold valL; rw [HF.out]; simp [osL, toOS, hO.hlen, hlt])
    generalize xs[i]'(by rw [hO.hlen]; exact hlt) = x at *
    have x1' := keepC HB.out x1
    have hbl := World.block_lt_of_cell? w1 _ x1'
    dsimp only at hbl
    clear hO hsn hol hi hs
    simp only [findV, Option.getD_some, Option.isSome_some, syV]
    go_wp2_with fail
    go_quiet (fail)
    go_wp2_with fail
    refine bodyPost_ret (results_tmp rfl _ _ _) rfl ⟨?_, bdN (HB.out.alloc HB.out.size _) _⟩
    rw [HV.out]; rfl
end Go.Proofs.Ytblefgkhikfmhaa
