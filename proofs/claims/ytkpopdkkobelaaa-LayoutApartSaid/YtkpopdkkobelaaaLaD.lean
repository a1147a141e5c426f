
/- Stage 17: vast. -/
import Derived.Test.YtkpopdkkobelaaaLa8
namespace Go.Proofs.Ytkpopdkkobelaaa
open Go.RowKit Go.Sort Go.Shelf
attribute [local go_sem] Oper.semAt_some

def VastPost (xs : List LO) (w : World) (e : Ending) (w' : World) : Prop := w = w' ∧ ∃ b, e = .returned (.bool b) ∧ (b = false → xs.length ≤ 20 ∧ ∀ i (h : i < xs.length), xs[i].gn ≤ 40)
theorem vast_ret {xs : List LO} {w : World} {b : Bool} (h : b = false → xs.length ≤ 20 ∧ ∀ i (h : i < xs.length), xs[i].gn ≤ 40) : VastPost xs w (.returned (.bool b)) w := ⟨rfl, b, rfl, h⟩
set_option maxHeartbeats 4000000 in
theorem vast_any (a : Option Addr) (c : Nat) (xs : List LO) (w : World) (hX : LOs w a xs.length xs) (hl : xs.length ≤ 1000000000000) (hg : ∀ i (h : i < xs.length), xs[i].gn ≤ 4000000000000) :
    Calls Try.prog 9 #[.slice a xs.length c] w (VastPost xs w) := by
  have HX := hid hX
  have HG := hid hg
  clear hX hg
  by_cases h20 : 20 < xs.length
  · have d20 : decide ((20 : Int) < (xs.length : Int)) = true := by simp; omega
    have d20n : decide (20 < xs.length) = true := decide_eq_true h20
    clear h20
    go_enter Try.func9, Try.ntmps9
    go_wp2_with fail
    go_ret
    exact vast_ret (fun h => by cases h)
  have d20 : decide ((20 : Int) < (xs.length : Int)) = false := by simp; omega
  have d20n : decide (20 < xs.length) = false := decide_eq_false h20
  have H20 := hid h20
  go_enter Try.func9, Try.ntmps9
  go_wp2_with fail
  go_loop [3] (fun i => ∃ k : Nat, k ≤ xs.length ∧ i = .int .i64 k ∧ ∀ i (h : i < xs.length), i < k → xs[i].gn ≤ 40) (fun i => xs.length - (intOf i).toNat)
  case atStart => exact ⟨0, Nat.zero_le _, rfl, fun i _ h => by omega⟩
  case round =>
    obtain ⟨k, hk, rfl, hto⟩ := hrel
    have HTO := hid hto
    clear hto
    by_cases hlt : k < xs.length
    · have d1 : decide ((k : Int) < (xs.length : Int)) = true := by simp; omega
      have d1n : decide (k < xs.length) = true := by simp; omega
      obtain ⟨b, off, rfl, ⟨x0, x1, x2, x3, x4, x5⟩, x6, x7, x8, x9, x10⟩ := HX.out.cells hlt
      have hgk := HG.out k hlt
      have HST := hid (fun (h : xs[k].gn ≤ 40) => show ∀ i (h : i < xs.length), i < k + 1 → xs[i].gn ≤ 40 from fun i hi hik => by
        by_cases e : i = k
        · subst e; exact h
        · exact HTO.out i hi (by omega))
      have hbl := World.block_lt_of_cell? w _ x0
      generalize xs[k] = x at *
      by_cases h40 : 40 < x.gn
      · have d2 : decide ((40 : Int) < (x.gn : Int)) = true := by simp; omega
        have d2n : decide (40 < x.gn) = true := decide_eq_true h40
        clear h40
        go_wp2_with fail
        go_ret
        exact vast_ret (fun h => by cases h)
      · have d2 : decide ((40 : Int) < (x.gn : Int)) = false := by simp; omega
        have d2n : decide (40 < x.gn) = false := decide_eq_false h40
        have HS2 := hid (HST.out (by omega))
        clear h40
        go_wp2_with fail
        go_round
        case rel => exact ⟨k + 1, by omega, by go_num, HS2.out⟩
        case measure => simp [intOf]; omega
    · have d1 : decide ((k : Int) < (xs.length : Int)) = false := by simp; omega
      have d1n : decide (k < xs.length) = false := by simp; omega
      have HF := hid (show xs.length ≤ 20 ∧ ∀ i (h : i < xs.length), xs[i].gn ≤ 40 from ⟨by have := H20.out; omega, fun i hi => HTO.out i hi (by omega)⟩)
      go_wp2_with fail
      go_ret
      exact vast_ret (fun _ => HF.out)
end Go.Proofs.Ytkpopdkkobelaaa
