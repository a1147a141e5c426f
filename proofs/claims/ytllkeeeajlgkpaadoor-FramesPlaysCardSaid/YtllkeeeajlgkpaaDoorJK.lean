
/- One frame's count turned; what is free behind it. No walk. -/
import Derived.Test.YtllkeeeajlgkpaaDoorJE
namespace Go.Proofs.YtllkeeeajlgkpaaDoor
open Go.RowKit Go.Sort

/-- One frame's count turned. -/
theorem freeN_set (fs : List FR) (k : Nat) (y : FR) (hk : k < fs.length) : freeN (fs.set k y) = freeN fs - (if fs[k].cnt == 0 then 1 else 0) + (if y.cnt == 0 then 1 else 0) := by
  unfold freeN
  rw [List.countP_set hk]
def atC (fs : List FR) (k : Nat) (c : Int) : List FR := fs.set k ⟨(fs.getD k default).bs, c⟩
theorem atC_cnt {fs : List FR} {k : Nat} (hk : k < fs.length) (c : Int) : cntF (atC fs k c) (k : Int) = c := by
  unfold cntF atC
  rw [if_pos (by rw [List.length_set]; omega), Int.toNat_natCast, getF_at _ _ _ (by rw [List.length_set]; exact hk), List.getElem_set_self]
theorem atC_takE {fs : List FR} {k : Nat} (hk : k < fs.length) (c : Int) (h : c ≠ 0) : takE (atC fs k c) (k : Int) = 0 := by unfold takE; rw [atC_cnt hk, if_neg h]
theorem atC_takE0 {fs : List FR} {k : Nat} (hk : k < fs.length) : takE (atC fs k 0) (k : Int) = 1 := by unfold takE; rw [atC_cnt hk, if_pos rfl]
theorem atC_bs {fs : List FR} {k : Nat} (hk : k < fs.length) (c : Int) : (atC fs k c).getD k default = ⟨(fs.getD k default).bs, c⟩ := by
  unfold atC
  rw [getF_at _ _ _ (by rw [List.length_set]; exact hk), List.getElem_set_self]
theorem atC_up {fs : List FR} {k : Nat} (hk : k < fs.length) (c : Int) (h : c ≠ 0) : upS (atC fs k c) (k : Int) = atC fs k (c + 1) := by
  unfold upS
  rw [atC_cnt hk, if_neg h, Int.toNat_natCast, atC_bs hk]
  unfold atC
  rw [List.set_set]
theorem atC_down {fs : List FR} {k : Nat} (hk : k < fs.length) (c : Int) (h : c ≠ 0) : downS (atC fs k c) (k : Int) = atC fs k (c - 1) := by
  unfold downS
  rw [atC_cnt hk, if_neg h, Int.toNat_natCast, atC_bs hk]
  unfold atC
  rw [List.set_set]
theorem atC_down0 {fs : List FR} {k : Nat} (hk : k < fs.length) : downS (atC fs k 0) (k : Int) = atC fs k 0 := by
  unfold downS
  rw [atC_cnt hk, if_pos rfl]
theorem atC_self {fs : List FR} {k : Nat} (hk : k < fs.length) : atC fs k fs[k].cnt = fs := by
  unfold atC
  rw [getF_at _ _ _ hk]
  exact List.set_getElem_self hk
theorem atC_free {fs : List FR} {k : Nat} (hk : k < fs.length) (hc : fs[k].cnt ≠ 0) (c : Int) : freeN (atC fs k c) = freeN fs + (if c == 0 then 1 else 0) := by
  unfold atC
  rw [freeN_set _ _ _ hk]
  have : (fs[k].cnt == 0) = false := by simpa using hc
  rw [this]
  simp
theorem atC_bd {fs : List FR} {k : Nat} {K : Int} (h : Bd K fs) (c : Int) (hc : c ≤ K) : Bd K (atC fs k c) := fun x hx => by
  rcases List.mem_or_eq_of_mem_set hx with hx | rfl
  · exact h x hx
  · exact hc
theorem bd_max {fs : List FR} {K : Int} (h : Bd K fs) (hK : K < 9223372036854775807) : ∀ x ∈ fs, x.cnt < 9223372036854775807 := fun x hx => by have := h x hx; omega
theorem bd_up {K L : Int} {fs : List FR} (h : Bd K fs) (hl : K ≤ L) : Bd L fs := fun x hx => by have := h x hx; omega
end Go.Proofs.YtllkeeeajlgkpaaDoor
