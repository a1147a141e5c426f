/- Package regions: part, and what becomes of parts. -/
import Derived.Test.YtcafmhhfnleanaaI6
import Derived.RegionTactic
namespace Go.Proofs.Ytcafmhhfnleanaa
open Go.RowKit Go.Sort

def mx (a b : Int) : Int := if a < b then b else a
def mn (a b : Int) : Int := if b < a then b else a
/-- The part of a region between two addresses; the zero region, if there is none. -/
def partR (x : RG) (f t : Int) : RG :=
  if mn t x.to ≤ mx f x.fr then rg0 else ⟨mx f x.fr, mn t x.to, x.pr, x.ino, if (x.ino != -1) = true then IntKind.u64.wrap (x.off + IntKind.u64.wrap (mx f x.fr - x.fr)) else x.off⟩

set_option maxHeartbeats 1000000 in
theorem part_any (x : RG) (f t : Int) (w : World) :
    Calls Try.prog 51 #[rgV x, .int .u64 f, .int .u64 t] w fun e w' => e = .returned (rgV (partR x f t)) ∧ Below w.heap.size w w' := by
  obtain ⟨g, u, p, i, o⟩ := x
  have HW := hid (@b2a w)
  have R0 := (Row.new w 25 (rgc ⟨g, u, p, i, o⟩)).alloc (.cells (rgc rg0).toArray 25)
  have R1 := Row.new (w.alloc (.cells (rgc ⟨g, u, p, i, o⟩).toArray 25)) 25 (rgc rg0)
  simp only [World.size_alloc] at R1
  go_enter Try.func51, Try.ntmps51
  go_wp2_with fail
  go_quiet (fail)
  have e1 : (if f < g then g else f) = mx f g := rfl
  have e2 : (if u < t then u else t) = mn t u := rfl
  simp only [e1, e2]
  clear e1 e2
  obtain ⟨a, ha⟩ : ∃ a, a = mx f g := ⟨_, rfl⟩
  obtain ⟨b, hb⟩ : ∃ b, b = mn t u := ⟨_, rfl⟩
  rw [← ha, ← hb]
  have HA := hid ha
  have HBB := hid hb
  clear ha hb
  go_wp2_with fail
  · have h1 : b ≤ a := by assumption
    refine bodyPost_ret (v := rgV rg0) (by simp [results, Try.results51, go_sem]; exact ⟨rfl, rfl, rfl, rfl, rfl⟩) rfl ⟨?_, ?_⟩
    · unfold partR
      rw [if_pos (by rw [← HA.out, ← HBB.out]; exact h1)]
    · repeat (first | with_reducible refine bset ?_ (by omega) _ | with_reducible refine bal2 ?_ _)
      exact bdN (HW.out _ _) _
  · have h1 : a < b := by assumption
    have h2 : (i != -1) = true := by assumption
    refine bodyPost_ret (v := rgV ⟨a, b, p, i, IntKind.u64.wrap (o + IntKind.u64.wrap (a - g))⟩) (by simp [results, Try.results51, go_sem]) rfl ⟨?_, ?_⟩
    · unfold partR
      rw [if_neg (by rw [← HA.out, ← HBB.out]; omega)]
      simp only [← HA.out, ← HBB.out, h2, if_true]
    · repeat (first | with_reducible refine bset ?_ (by omega) _ | with_reducible refine bal2 ?_ _)
      exact bdN (HW.out _ _) _
  · have h1 : a < b := by assumption
    have h2 : (i != -1) = false := by assumption
    refine bodyPost_ret (v := rgV ⟨a, b, p, i, o⟩) (by simp [results, Try.results51, go_sem]) rfl ⟨?_, ?_⟩
    · unfold partR
      rw [if_neg (by rw [← HA.out, ← HBB.out]; omega)]
      simp [← HA.out, ← HBB.out, h2]
    · repeat (first | with_reducible refine bset ?_ (by omega) _ | with_reducible refine bal2 ?_ _)
      exact bdN (HW.out _ _) _
theorem stays_any (x : RG) (w : World) :
    Calls Try.prog 52 #[rgV x] w fun e w' => e = .returned (rgV x) ∧ Below w.heap.size w w' := by
  obtain ⟨g, u, p, i, o⟩ := x
  have HW := hid (@b2a w)
  go_enter Try.func52, Try.ntmps52
  go_wp2_with fail
  refine bodyPost_ret (v := rgV ⟨g, u, p, i, o⟩) (by simp [results, Try.results52, go_sem]) rfl ⟨rfl, ?_⟩
  repeat (first | with_reducible refine bset ?_ (by omega) _ | with_reducible refine bal2 ?_ _)
  exact Below.refl _ _
theorem nothing_any (x : RG) (w : World) :
    Calls Try.prog 38 #[rgV x] w fun e w' => e = .returned (rgV rg0) ∧ Below w.heap.size w w' := by
  obtain ⟨g, u, p, i, o⟩ := x
  go_enter Try.func38, Try.ntmps38
  go_wp2_with fail
  refine bodyPost_ret (v := rgV rg0) (by simp [results, Try.results38, go_sem]; exact ⟨rfl, rfl, rfl, rfl, rfl⟩) rfl ⟨rfl, ?_⟩
  repeat (first | with_reducible refine bset ?_ (by omega) _ | with_reducible refine bal2 ?_ _)
  exact Below.refl _ _
def protR (q : Int) (x : RG) : RG := ⟨x.fr, x.to, q, x.ino, x.off⟩
theorem prot_any (x : RG) (q : Int) (b : Nat) (w : World) (hq : w.cell? ⟨b, 0, none⟩ = some (.int .u8 q)) :
    Calls Try.prog 46 #[rgV x, .pointer (some ⟨b, 0, none⟩)] w fun e w' => e = .returned (rgV (protR q x)) ∧ Below w.heap.size w w' := by
  obtain ⟨g, u, p, i, o⟩ := x
  have hlb := World.block_lt_of_cell? _ _ hq
  simp only at hlb
  go_enter Try.func46, Try.ntmps46
  go_wp2_with fail
  refine bodyPost_ret (v := rgV ⟨g, u, q, i, o⟩) (by simp [results, Try.results46, go_sem]) rfl ⟨rfl, ?_⟩
  repeat (first | with_reducible refine bset ?_ (by omega) _ | with_reducible refine bal2 ?_ _)
  exact Below.refl _ _
end Go.Proofs.Ytcafmhhfnleanaa
