
/- stack's reader: the pairs. -/
import Derived.Test.YtihaakcfegelkaaDoorTk3
namespace Go.Proofs.YtihaakcfegelkaaDoor
open Go.RowKit Go.Sort
attribute [local go_sem] Oper.semAt_some

def axC (x : Nat × Nat) : List Value := [.int .u64 (x.1 : Int), .int .u64 (x.2 : Int)]
abbrev OwnA (w : World) (base : Nat) (v : Value) (l : List (Nat × Nat)) : Prop := w.ownsRow base 43 2 v l.length (l.map axC).flatten
theorem infoAx : (Tryd.prog.info? 43).map (fun i => (i.zero, i.size, i.bytes)) = some (some (.agg #[.int .u64 0, .int .u64 0]), 2, 16) := by kernel_rfl
theorem axC_len (l : List (Nat × Nat)) : ∀ r ∈ l.map axC, r.length = 2 := by
  intro r hr
  obtain ⟨x, _, rfl⟩ := List.mem_map.1 hr
  rfl
theorem axC_one (l : List (Nat × Nat)) : ∀ r ∈ l.map axC, ∀ u ∈ r, u.oneCell' = true := by
  intro r hr u hu
  obtain ⟨x, _, rfl⟩ := List.mem_map.1 hr
  simp only [axC, List.mem_cons, List.not_mem_nil, or_false] at hu
  rcases hu with rfl | rfl <;> rfl
theorem ownA_nil (w : World) (base : Nat) : OwnA w base (.slice none 0 0) [] := World.ownsRow_nil _ _ _ _
theorem ownA_snoc {w : World} {base n : Nat} {v : Value} {l m : List (Nat × Nat)} {x : Nat × Nat} (h : w.ownsRow base 43 2 v n (l.map axC ++ [axC x]).flatten) (hm : m = l ++ [x]) (hn : n = l.length + 1) : OwnA w base v m := by
  subst hm; subst hn
  exact own_ext h (by simp) (by simp)

/-- The pairs of k. -/
def prs2 (l : List UInt8) (p : Nat) : Nat → List (Nat × Nat)
  | 0 => []
  | k + 1 => (n8 l p, n8 l (p + 8)) :: prs2 l (p + 16) k
theorem prs2_len (l : List UInt8) (p k : Nat) : (prs2 l p k).length = k := by
  induction k generalizing p with
  | zero => rfl
  | succ k ih => simp [prs2, ih]
theorem prs2_snoc (l : List UInt8) (p k : Nat) : prs2 l p (k + 1) = prs2 l p k ++ [(n8 l (p + 16 * k), n8 l (p + 16 * k + 8))] := by
  induction k generalizing p with
  | zero => rfl
  | succ k ih =>
    show (n8 l p, n8 l (p + 8)) :: prs2 l (p + 16) (k + 1) = ((n8 l p, n8 l (p + 8)) :: prs2 l (p + 16) k) ++ [(n8 l (p + 16 * (k + 1)), n8 l (p + 16 * (k + 1) + 8))]
    rw [ih, List.cons_append, show p + 16 + 16 * k = p + 16 * (k + 1) by omega]
structure PrsK (l : List UInt8) (p0 k : Nat) : Prop where
  err : (pairsR l 18 p0 0).1 = (pairsR l (18 - k) (p0 + 16 * k) k).1
  val : (pairsR l (18 - k) (p0 + 16 * k) k).1 = 0 → (pairsR l 18 p0 0).2 = prs2 l p0 k ++ (pairsR l (18 - k) (p0 + 16 * k) k).2
theorem PrsK.zero (l : List UInt8) (p0 : Nat) : PrsK l p0 0 := ⟨rfl, fun _ => rfl⟩
theorem PrsK.succ {l : List UInt8} {p0 k : Nat} (h : PrsK l p0 k) (c1 : ¬ l.length < p0 + 16 * k + 16) (c2 : ¬ n8 l (p0 + 16 * k) = 0) (c3 : k < 17) : PrsK l p0 (k + 1) := by
  have e : pairsR l (18 - k) (p0 + 16 * k) k = ((pairsR l (18 - (k + 1)) (p0 + 16 * (k + 1)) (k + 1)).1, if (pairsR l (18 - (k + 1)) (p0 + 16 * (k + 1)) (k + 1)).1 = 0 then (n8 l (p0 + 16 * k), n8 l (p0 + 16 * k + 8)) :: (pairsR l (18 - (k + 1)) (p0 + 16 * (k + 1)) (k + 1)).2 else []) := by
    rw [show 18 - k = (18 - (k + 1)) + 1 by omega]
    conv => lhs; unfold pairsR
    rw [if_neg c1, if_neg c2, if_neg (by omega), show p0 + 16 * k + 16 = p0 + 16 * (k + 1) by omega]
  refine ⟨by rw [h.err, e], fun h0 => ?_⟩
  rw [h.val (by rw [e]; exact h0), e]
  simp only [if_pos h0]
  rw [prs2_snoc, List.append_assoc, List.singleton_append]
theorem PrsK.short {l : List UInt8} {p0 k : Nat} (h : PrsK l p0 k) (hk : k ≤ 17) (c1 : l.length < p0 + 16 * k + 16) : (pairsR l 18 p0 0).1 = 25 := by
  rw [h.err, show 18 - k = (17 - k) + 1 by omega]; unfold pairsR; rw [if_pos c1]
theorem PrsK.many {l : List UInt8} {p0 : Nat} (h : PrsK l p0 17) (c1 : ¬ l.length < p0 + 16 * 17 + 16) (c2 : ¬ n8 l (p0 + 16 * 17) = 0) : (pairsR l 18 p0 0).1 = 12 := by
  rw [h.err]; show (pairsR l 1 (p0 + 16 * 17) 17).1 = 12; unfold pairsR; rw [if_neg c1, if_neg c2, if_pos rfl]
theorem PrsK.fin {l : List UInt8} {p0 k : Nat} (h : PrsK l p0 k) (hk : k ≤ 17) (c1 : ¬ l.length < p0 + 16 * k + 16) (c2 : n8 l (p0 + 16 * k) = 0) : (pairsR l 18 p0 0).1 = 0 ∧ (pairsR l 18 p0 0).2 = prs2 l p0 k := by
  have e : pairsR l (18 - k) (p0 + 16 * k) k = (0, []) := by
    rw [show 18 - k = (17 - k) + 1 by omega]; unfold pairsR; rw [if_neg c1, if_pos c2]
  have e1 := h.err
  have e2 := h.val
  rw [e] at e1 e2
  exact ⟨e1, by have := e2 rfl; rw [List.append_nil] at this; exact this⟩

def PrsPost (W0 w : World) (r : Nat) (a : Option Addr) (len cap sp : Nat) (l : List UInt8) (p0 : Nat) (e : Ending) (w' : World) : Prop :=
  ∃ v p', e = .returned (.tuple #[v, .int .i64 (pairsR l 18 p0 0).1]) ∧ OwnA w' w.heap.size v (pairsR l 18 p0 0).2 ∧ X1 w w' r ∧ RD W0 w' r a len cap sp l p'
theorem prsP_no {W0 w w' : World} {r : Nat} {a : Option Addr} {len cap sp p er p0 : Nat} {l : List UInt8} (h : (pairsR l 18 p0 0).1 = (er : Int)) (he : (er : Int) ≠ 0) (hx : X1 w w' r) (hd : RD W0 w' r a len cap sp l p) : PrsPost W0 w r a len cap sp l p0 (.returned (.tuple #[.slice none 0 0, .int .i64 (er : Int)])) w' :=
  ⟨.slice none 0 0, p, by rw [h], by rw [pairsR_no _ _ _ _ (by rw [h]; exact he)]; exact ownA_nil _ _, hx, hd⟩
theorem prsP_yes {W0 w w' : World} {r : Nat} {a : Option Addr} {len cap sp p p0 : Nat} {l : List UInt8} {v : Value} {ys : List (Nat × Nat)} (h : (pairsR l 18 p0 0).1 = 0 ∧ (pairsR l 18 p0 0).2 = ys) (ho : OwnA w' w.heap.size v ys) (hx : X1 w w' r) (hd : RD W0 w' r a len cap sp l p) : PrsPost W0 w r a len cap sp l p0 (.returned (.tuple #[v, .int .i64 0])) w' :=
  ⟨v, p, by rw [h.1], by rw [h.2]; exact ho, hx, hd⟩

set_option maxRecDepth 100000 in
set_option maxHeartbeats 4000000 in
theorem pairs_any (W0 w : World) (r : Nat) (a : Option Addr) (len cap sp : Nat) (l : List UInt8) (p0 : Nat) (h : RD W0 w r a len cap sp l p0) :
    Calls Tryd.prog 33 #[.pointer (some ⟨r, 0, none⟩)] w (PrsPost W0 w r a len cap sp l p0) := by
  have HD := hid h
  clear h
  go_enter Tryd.func33, Tryd.ntmps33
  go_wp2_with fail
  go_loopw [4] (fun v wr => ∃ k : Nat, k ≤ 17 ∧ OwnA wr w.heap.size v (prs2 l p0 k) ∧ X1 w wr r ∧ RD W0 wr r a len cap sp l (p0 + 16 * k) ∧ PrsK l p0 k) (fun v _ => 18 - lenV v)
  case atStart => exact ⟨0, Nat.zero_le _, ownA_nil _ _, X1.refl _ _, HD.out, PrsK.zero _ _⟩
  case round =>
    obtain ⟨k, hk, hown, hx, hd, hek⟩ := hrel
    have hown2 := own_ext hown (prs2_len l p0 k) rfl
    clear hown
    obtain ⟨va, vc, rfl⟩ := own_hd2 hown2
    have HO := hid hown2
    have HX := hid hx
    have HDR := hid hd
    have HEK := hid hek
    have HLK := hid (prs2_len l p0 k)
    clear hown2 hx hd hek
    by_cases hin : l.length < p0 + 16 * k + 8
    · have HE := hid (show (pairsR l 18 p0 0).1 = ((25 : Nat) : Int) from HEK.out.short hk (by omega))
      go_wp2_with fail
      refine (nextR_no W0 wr r a len cap sp (p0 + 16 * k) l HDR.out (by omega)).mono ?_
      rintro e' w2 ⟨rfl, hb⟩
      have HB := hid hb
      clear hb hin
      go_wp2_with fail
      go_ret2
      exact prsP_no HE.out (by decide) (HX.out.trans (X1.of r HB.out)) (HDR.out.still HB.out)
    · go_wp2_with fail
      refine (nextR_yes W0 wr r a len cap sp (p0 + 16 * k) l HDR.out (by omega)).mono ?_
      rintro e' w2 ⟨rfl, hx, hd⟩
      have HX2 := hid (HX.out.trans hx)
      have HD2 := hid hd
      have HO2 := hid (hx.own HO.out (own_ne_row HO.out HDR.out.row (by decide)))
      have HN8 := hid (n8_lt l (p0 + 16 * k) (by omega))
      obtain ⟨z, hz⟩ : ∃ z, z = n8 l (p0 + 16 * k) := ⟨_, rfl⟩
      have HZZ := hid hz
      rw [← hz]
      clear hx hd hin hz
      by_cases hin : l.length < p0 + 16 * k + 16
      · have HE := hid (show (pairsR l 18 p0 0).1 = ((25 : Nat) : Int) from HEK.out.short hk (by omega))
        go_wp2_with fail
        refine (nextR_no W0 w2 r a len cap sp (p0 + 16 * k + 8) l HD2.out (by omega)).mono ?_
        rintro e' w3 ⟨rfl, hb⟩
        have HB := hid hb
        clear hb hin
        go_wp2_with fail
        go_ret2
        exact prsP_no HE.out (by decide) (HX2.out.trans (X1.of r HB.out)) (HD2.out.still HB.out)
      · have HIN := hid hin
        go_wp2_with fail
        refine (nextR_yes W0 w2 r a len cap sp (p0 + 16 * k + 8) l HD2.out (by omega)).mono ?_
        rintro e' w3 ⟨rfl, hx, hd⟩
        have HX3 := hid (HX2.out.trans hx)
        have HD3 := hid hd
        have HO3 := hid (hx.own HO2.out (own_ne_row HO2.out HD2.out.row (by decide)))
        obtain ⟨y, hy⟩ : ∃ y, y = n8 l (p0 + 16 * k + 8) := ⟨_, rfl⟩
        have HYY := hid hy
        rw [← hy]
        clear hx hd hin hy
        by_cases h0 : z = 0
        · have HE := hid (HEK.out.fin hk HIN.out (by rw [← HZZ.out]; exact h0))
          subst h0
          go_wp2_with fail
          go_ret2
          exact prsP_yes HE.out (own_ext HO3.out HLK.out.symm rfl) HX3.out HD3.out
        · have d0 : ((z : Int) == 0) = false := by simp; omega
          have H0 := hid h0
          clear h0
          by_cases h17 : k = 17
          · subst h17
            have HE := hid (show (pairsR l 18 p0 0).1 = ((12 : Nat) : Int) from HEK.out.many HIN.out (by rw [← HZZ.out]; exact H0.out))
            go_wp2_with fail
            go_ret2
            exact prsP_no HE.out (by decide) HX3.out HD3.out
          · have d17 : ((k : Int) == 17) = false := by simp; omega
            have HK1 := hid (HEK.out.succ HIN.out (by rw [← HZZ.out]; exact H0.out) (by omega))
            have HSN := hid (show prs2 l p0 (k + 1) = prs2 l p0 k ++ [(z, y)] by rw [prs2_snoc, HZZ.out, HYY.out])
            have HZ0 := hid HD.out.low.size
            have HO4 := hid (fun o => own_below HO3.out (@bal w3 o))
            have HZ3 := hid (show w.heap.size ≤ w3.heap.size + 1 by have := HX3.out.size; omega)
            have HC := hid (rk_new w3 43 (axC (z, y)) (k := 2) rfl)
            have HNa := hid (show (k + 1) * 16 ≤ 140737488355328 by omega)
            have HNb := hid (show k + 1 ≤ maxLen by unfold maxLen; omega)
            have K17 := hid (show k + 1 ≤ 17 by omega)
            clear h17
            go_wp2_with (at_builtin; go_must (refine wpList_apK Tryd.underlying23 infoAx rfl (by decide) rfl _ _ rfl w.heap.size (.slice va k vc) k ((prs2 l p0 k).map axC) [axC (z, y)] rfl (some ⟨w3.heap.size, 0, none⟩) 1 1 rfl (HO4.out _) HC.out (axC_one [(z, y)]) (fun h => by cases h) HNa.out HNb.out (by rw [World.size_alloc]; exact HZ3.out) ?_; intro v' w9 hown hgrow hb9; have HO9 := hid hown; obtain ⟨v9a, v9c, rfl⟩ := own_hd2 hown; have HG9 := hid hgrow; have HB9 := hid hb9; clear hown hgrow hb9))
            go_roundw
            case rel => exact ⟨k + 1, K17.out, ownA_snoc HO9.out HSN.out (by rw [HLK.out]), (HX3.out.alloc _).then HB9.out, HD3.out.app (HO4.out _) (by decide) HG9.out HZ0.out, HK1.out⟩
            case measure => simp [lenV]; omega
end Go.Proofs.YtihaakcfegelkaaDoor
