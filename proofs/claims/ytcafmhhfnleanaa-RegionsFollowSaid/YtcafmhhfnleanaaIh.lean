/- The reference's Part and without. -/
import Derived.Test.YtcafmhhfnleanaaIb
namespace Go.Proofs.Ytcafmhhfnleanaa
open Go.RowKit Go.Sort

def partW (x : RG) (f t : Int) : RG := ⟨f, t, x.pr, x.ino, if (x.ino != -1) = true then IntKind.u64.wrap (x.off + IntKind.u64.wrap (f - x.fr)) else x.off⟩
set_option maxHeartbeats 1000000 in
theorem rpart_any (x : RG) (f t : Int) (w : World) :
    Calls Try.prog 48 #[rgV x, .int .u64 f, .int .u64 t] w fun e w' => e = .returned (rgV (partW x f t)) ∧ Below w.heap.size w w' := by
  obtain ⟨g, u, p, i, o⟩ := x
  go_enter Try.func48, Try.ntmps48
  go_wp2_with fail
  · have h2 : (i != -1) = true := by assumption
    refine bodyPost_ret (v := rgV ⟨f, t, p, i, IntKind.u64.wrap (o + IntKind.u64.wrap (f - g))⟩) (by simp [results, Try.results48, go_sem]) rfl ⟨?_, ?_⟩
    · unfold partW
      simp only [h2, if_true]
    · repeat (first | with_reducible refine bset ?_ (by omega) _ | with_reducible refine bal2 ?_ _)
      exact Below.refl _ _
  · have h2 : (i != -1) = false := by assumption
    refine bodyPost_ret (v := rgV ⟨f, t, p, i, o⟩) (by simp [results, Try.results48, go_sem]) rfl ⟨?_, ?_⟩
    · unfold partW
      simp [h2]
    · repeat (first | with_reducible refine bset ?_ (by omega) _ | with_reducible refine bal2 ?_ _)
      exact Below.refl _ _

/-- What is left of a region when what lies between two addresses goes. -/
def woP (x : RG) (f t : Int) : List RG := if x.to ≤ f ∨ t ≤ x.fr then [x] else (if x.fr < f then [partW x x.fr f] else []) ++ (if t < x.to then [partW x t x.to] else [])
def woR (l : List RG) (f t : Int) : List RG := l.flatMap fun x => woP x f t
theorem woP_len (x : RG) (f t : Int) : (woP x f t).length ≤ 2 := by
  unfold woP
  split
  · simp
  · split <;> split <;> simp
theorem woR_len (l : List RG) (f t : Int) : (woR l f t).length ≤ 2 * l.length := by
  induction l with
  | nil => simp [woR]
  | cons x l ih =>
    have := woP_len x f t
    simp only [woR, List.flatMap_cons, List.length_append, List.length_cons] at *
    omega
theorem woR_take (l : List RG) (f t : Int) (k : Nat) (h : k < l.length) : woR (l.take (k + 1)) f t = woR (l.take k) f t ++ woP l[k] f t := by
  unfold woR
  rw [List.take_succ_eq_append_getElem h, List.flatMap_append]
  simp

set_option maxHeartbeats 4000000 in
theorem without_any (a : Option Addr) (len cap : Nat) (l : List RG) (f t : Int) (w : World) (hA : Rgs w a len l) (hl : len ≤ 300) :
    Calls Try.prog 42 #[.slice a len cap, .int .u64 f, .int .u64 t] w fun e w' => ∃ v, e = .returned v ∧ w'.ownsRow w.heap.size 25 5 v (woR l f t).length (flat5 (woR l f t)) ∧ Below w.heap.size w w' := by
  obtain rfl := hA.hlen
  have HA := hid hA
  clear hA
  go_enter Try.func42, Try.ntmps42
  go_wp2_with fail
  go_loopw [7, 8] (fun v i wr => ∃ (sv : Value) (k : Nat), sv = v ∧ k ≤ l.length ∧ i = .int .i64 k ∧ wr.ownsRow w.heap.size 25 5 sv (woR (l.take k) f t).length (flat5 (woR (l.take k) f t)) ∧ Below w.heap.size w wr) (fun _ i _ => l.length - (intOf i).toNat)
  case atStart => exact ⟨_, 0, rfl, Nat.zero_le _, rfl, own_rgs_nil, Below.refl _ _⟩
  case round =>
    obtain ⟨sv, k, hsv, hk, rfl, ho, hb⟩ := hrel
    subst hsv
    have HB := hid hb
    have HO := hid ho
    have hsz := hb.size
    by_cases hlt : k < l.length
    · have d1 : decide ((k : Int) < (l.length : Int)) = true := by simp; omega
      have d1n : decide (k < l.length) = true := by simp; omega
      obtain ⟨b, off, rfl, hcell⟩ := HA.out.some_of (by omega)
      obtain ⟨y0, y1, y2, y3, y4⟩ := (hcell k hlt).below hb
      have hlb := World.block_lt_of_cell? _ _ y0
      have HT := hid (woR_take l f t k hlt)
      have hln := woR_len (l.take k) f t
      have hlk : (l.take k).length ≤ 300 := by simp; omega
      have hneW : ∀ b, wr.heap.size ≤ b → sv.ownBlock ≠ some b := fun b hb' h => by have := (ho.lt _ h).2; omega
      have HNE := hid hneW
      clear hb hcell hneW ho
      generalize l[k] = x at *
      generalize woR (l.take k) f t = acc at *
      have hon : acc.length ≤ 1000000 := by omega
      have HON1 := hid (show acc.length + 1 ≤ 1000000 by omega)
      have HX := hid (Row.new wr 25 (rgc x))
      have HP := hid (show woP x f t = if x.to ≤ f ∨ t ≤ x.fr then [x] else (if x.fr < f then [partW x x.fr f] else []) ++ (if t < x.to then [partW x t x.to] else []) from rfl)
      clear hln hlk
      by_cases hA' : x.to ≤ f ∨ t ≤ x.fr
      · rw [if_pos hA'] at HP
        have HO1 := hid (fun o1 o2 => (HO.out.alloc o1).alloc o2)
        have HB1 := hid (fun o1 o2 => bal2 (bal2 HB.out o1) o2)
        have HNx := hid (fun o => new_rg (wr.alloc o) 25 x)
        have hlB := hid (fun o1 o2 => show w.heap.size ≤ ((wr.alloc o1).alloc o2).heap.size by simp only [World.size_alloc]; omega)
        rcases hA' with h1 | h1
        all_goals
          go_wp2_with (at_builtin; refine wpList_app5 _ rfl _ _ 22 rfl w.heap.size 25 Try.underlying22 infoReg sv acc.length acc rfl (HO1.out _ _) (wr.heap.size + 1) x rfl (by have := HNx.out; simpa using this _) hon (hlB.out _ _) ?_; intro v2 w2 hown' hgrow hat; have HO2 := hid hown'; have HB2 := hid (grown_low (HO1.out _ _) hgrow (HB1.out _ _) (Nat.le_refl _) (hlB.out _ _)); clear hown' hgrow hat)
          all_goals
            go_wp2_with fail
            go_roundw
            case rel => exact ⟨_, k + 1, rfl, by omega, by go_num, by rw [HT.out, HP.out]; simpa using HO2.out, HB2.out⟩
            case measure => simp [intOf]; omega
      · rw [if_neg hA'] at HP
        have n1 : f < x.to := by omega
        have n2 : x.fr < t := by omega
        clear hA'
        by_cases h1 : x.fr < f
        · have HOx := hid (fun o => HO.out.alloc o)
          have HBx := hid (fun o => bal2 HB.out o)
          rw [if_pos h1] at HP
          go_wp2_with fail
          refine (rpart_any x x.fr f _).mono ?_
          rintro e' w2 ⟨rfl, hb2⟩
          have HO2 := hid (own_below (HOx.out _) hb2)
          have HB2 := hid (bthen (HBx.out _) hb2)
          have HX2 := hid (HX.out.bel hb2)
          have hsz2 := hb2.size
          simp only [World.size_alloc] at hsz2
          clear hb2 y0 y1 y2 y3 y4
          obtain ⟨x0, x1, x2, x3, x4⟩ := HX2.out.c5
          have hlx := HX2.out.lt
          generalize partW x x.fr f = p1 at *
          have HO3 := hid (fun o => HO2.out.alloc o)
          have HN3 := hid (new_rg w2 25 p1)
          have hlB3 := hid (fun o => show w.heap.size ≤ (w2.alloc o).heap.size by simp only [World.size_alloc]; omega)
          go_wp2_with (at_builtin; refine wpList_app5 _ rfl _ _ 22 rfl w.heap.size 25 Try.underlying22 infoReg sv acc.length acc rfl (HO3.out _) w2.heap.size p1 rfl HN3.out hon (hlB3.out _) ?_; intro v3 w3 hown' hgrow hat; have HO4 := hid hown'; have HB4 := hid (grown_low (HO3.out _) hgrow (bal2 HB2.out _) (Nat.le_refl _) (hlB3.out _)); have HX4 := hid ((HX2.out.alloc _).grown hgrow (fun h => HNE.out _ (Nat.le_refl _) h.symm)); obtain ⟨q0, q1, q2, q3, q4⟩ := HX4.out.c5; have hlx4 := HX4.out.lt; have hsz4 := HB4.out.size; clear hown' hgrow hat)
          · have h2 : t < x.to := by assumption
            rw [if_pos h2] at HP
            refine (rpart_any x t x.to _).mono ?_
            rintro e' w4 ⟨rfl, hb4⟩
            have HO5 := hid (own_below HO4.out hb4)
            have HB5 := hid (bthen HB4.out hb4)
            have hsz5 := hb4.size
            clear hb4 q0 q1 q2 q3 q4 x0 x1 x2 x3 x4
            generalize partW x t x.to = p2 at *
            have HO6 := hid (fun o => HO5.out.alloc o)
            have HN6 := hid (new_rg w4 25 p2)
            have hlB6 := hid (fun o => show w.heap.size ≤ (w4.alloc o).heap.size by simp only [World.size_alloc]; omega)
            go_wp2_with (at_builtin; refine wpList_app5 _ rfl _ _ 22 rfl w.heap.size 25 Try.underlying22 infoReg v3 (acc.length + 1) (acc ++ [p1]) rfl (HO6.out _) w4.heap.size p2 rfl HN6.out HON1.out (hlB6.out _) ?_; intro v5 w5 hown' hgrow hat; have HO7 := hid hown'; have HB7 := hid (grown_low (HO6.out _) hgrow (bal2 HB5.out _) (Nat.le_refl _) (hlB6.out _)); clear hown' hgrow hat)
            go_wp2_with fail
            go_roundw
            case rel => exact ⟨_, k + 1, rfl, by omega, by go_num, by rw [HT.out, HP.out]; simpa using HO7.out, HB7.out⟩
            case measure => simp [intOf]; omega
          · have h2 : ¬ t < x.to := by omega
            rw [if_neg h2] at HP
            go_roundw
            case rel => exact ⟨_, k + 1, rfl, by omega, by go_num, by rw [HT.out, HP.out]; simpa using HO4.out, HB4.out⟩
            case measure => simp [intOf]; omega
        · rw [if_neg h1] at HP
          by_cases h2 : t < x.to
          · rw [if_pos h2] at HP
            have HOx := hid (fun o => HO.out.alloc o)
            have HBx := hid (fun o => bal2 HB.out o)
            go_wp2_with fail
            refine (rpart_any x t x.to _).mono ?_
            rintro e' w2 ⟨rfl, hb2⟩
            have HO2 := hid (own_below (HOx.out _) hb2)
            have HB2 := hid (bthen (HBx.out _) hb2)
            have hsz2 := hb2.size
            simp only [World.size_alloc] at hsz2
            clear hb2 y0 y1 y2 y3 y4
            generalize partW x t x.to = p1 at *
            have HO3 := hid (fun o => HO2.out.alloc o)
            have HN3 := hid (new_rg w2 25 p1)
            have hlB3 := hid (fun o => show w.heap.size ≤ (w2.alloc o).heap.size by simp only [World.size_alloc]; omega)
            go_wp2_with (at_builtin; refine wpList_app5 _ rfl _ _ 22 rfl w.heap.size 25 Try.underlying22 infoReg sv acc.length acc rfl (HO3.out _) w2.heap.size p1 rfl HN3.out hon (hlB3.out _) ?_; intro v3 w3 hown' hgrow hat; have HO4 := hid hown'; have HB4 := hid (grown_low (HO3.out _) hgrow (bal2 HB2.out _) (Nat.le_refl _) (hlB3.out _)); clear hown' hgrow hat)
            go_wp2_with fail
            go_roundw
            case rel => exact ⟨_, k + 1, rfl, by omega, by go_num, by rw [HT.out, HP.out]; simpa using HO4.out, HB4.out⟩
            case measure => simp [intOf]; omega
          · rw [if_neg h2] at HP
            go_wp2_with fail
            go_roundw
            case rel => exact ⟨_, k + 1, rfl, by omega, by go_num, by rw [HT.out, HP.out]; simpa using HO.out.alloc _, bal2 HB.out _⟩
            case measure => simp [intOf]; omega
    · have d1 : decide ((k : Int) < (l.length : Int)) = false := by simp; omega
      have d1n : decide (k < l.length) = false := by simp; omega
      obtain rfl : k = l.length := by omega
      rw [List.take_length] at ho
      clear hb HO
      have HO := hid ho
      clear ho
      go_wp2_with fail
      go_ret
      exact ⟨_, rfl, HO.out, HB.out⟩
end Go.Proofs.Ytcafmhhfnleanaa
