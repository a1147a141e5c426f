
/- Stage 17: LayoutBases' walk. -/
import Derived.Test.YtkpopdkkobelaaaLaV
import Derived.Test.YtkpopdkkobelaaaLaW
namespace Go.Proofs.Ytkpopdkkobelaaa
open Go.RowKit Go.Sort Go.Shelf
attribute [local go_sem] Oper.semAt_some

/-- Two lists of objects that differ in where their segments lie alone. -/
def Tws : List LO → List LO → Prop
  | [], [] => True
  | x :: r, y :: t => (∃ a c, y = x.moved a c) ∧ Tws r t
  | _, _ => False
theorem tws_of : ∀ (xs ys : List LO), ys.length = xs.length → (∀ i (h : i < xs.length) (h' : i < ys.length), ∃ a c, ys[i] = xs[i].moved a c) → Tws xs ys
  | [], [], _, _ => trivial
  | [], y :: t, h, _ => by simp at h
  | x :: r, [], h, _ => by simp at h
  | x :: r, y :: t, h, hh => ⟨by have := hh 0 (by simp) (by simp); simpa using this, tws_of r t (by simpa using h) (fun i h1 h2 => by have := hh (i + 1) (by simpa using h1) (by simpa using h2); simpa using this)⟩
theorem Tws.len : ∀ {xs ys : List LO}, Tws xs ys → ys.length = xs.length
  | [], [], _ => rfl
  | [], y :: t, h => h.elim
  | x :: r, [], h => h.elim
  | x :: r, y :: t, h => by rw [List.length_cons, List.length_cons, Tws.len h.2]
theorem Tws.at : ∀ {xs ys : List LO}, Tws xs ys → ∀ i (h : i < xs.length) (h' : i < ys.length), ∃ a c, ys[i] = xs[i].moved a c
  | [], [], _, i, h, _ => by simp at h
  | [], y :: t, h, _, _, _ => h.elim
  | x :: r, [], h, _, _, _ => h.elim
  | x :: r, y :: t, h, 0, _, _ => h.1
  | x :: r, y :: t, h, i + 1, h1, h2 => by
    have := Tws.at h.2 i (by simpa using h1) (by simpa using h2)
    simpa using this
theorem placedL_moved (x : LO) (a : Option Addr) (c : Nat) (m : Bool) (lib : Int) : placedL (x.moved a c) m lib = (placedL x m lib).moved a c := by
  unfold placedL
  by_cases h : m = false
  · rw [if_pos h, if_pos h]; rfl
  · rw [if_neg h, if_neg h]
    by_cases h3 : x.typ = 3
    · rw [if_pos (show (x.moved a c).typ = 3 from h3), if_pos h3]; rfl
    · rw [if_neg (show ¬ (x.moved a c).typ = 3 from h3), if_neg h3]; rfl
theorem plAll_tw : ∀ {xs ys : List LO} (i : Nat) (lib : Int), Tws xs ys → Tws (plAll xs i lib) (plAll ys i lib) ∧ (plAll ys i lib).map exOf = (plAll xs i lib).map exOf
  | [], [], _, _, _ => ⟨trivial, rfl⟩
  | [], y :: t, _, _, h => h.elim
  | x :: r, [], _, _, h => h.elim
  | x :: r, y :: t, i, lib, h => by
    obtain ⟨⟨a, c, rfl⟩, h2⟩ := h
    rw [plAll, plAll, placedL_moved]
    have he : exOf ((placedL x (decide (i = 0)) lib).moved a c) = exOf (placedL x (decide (i = 0)) lib) := rfl
    rw [he, List.map_cons, List.map_cons, he]
    have ih := plAll_tw (i + 1) (if 0 < i then (exOf (placedL x (decide (i = 0)) lib)).2 + 4096 else lib) h2
    exact ⟨⟨⟨a, c, rfl⟩, ih.1⟩, by rw [ih.2]⟩
theorem rightL_tw {xs ys : List LO} (h : Tws xs ys) : rightL ys = rightL xs := by
  unfold rightL
  rw [h.len]
  congr 1
  rw [Bool.eq_iff_iff, List.all_eq_true, List.all_eq_true]
  refine forall_congr' fun i => ?_
  constructor
  · intro hh hi
    have hl := List.mem_range.1 hi
    obtain ⟨a, c, e⟩ := h.at i hl (by rw [h.len]; exact hl)
    have := hh hi
    rw [getD_lo (by rw [h.len]; exact hl), e] at this
    rw [getD_lo hl]
    exact this
  · intro hh hi
    have hl := List.mem_range.1 hi
    obtain ⟨a, c, e⟩ := h.at i hl (by rw [h.len]; exact hl)
    have := hh hi
    rw [getD_lo hl] at this
    rw [getD_lo (by rw [h.len]; exact hl), e]
    exact this
/-- What Bases answers, in one form. -/
def basOut (xs : List LO) : List LO := if rightL xs = true then (if hitAll [] ((plAll xs 0 139637976727552).map exOf) = true then [] else plAll xs 0 139637976727552) else []
def basErr (xs : List LO) : Int := if rightL xs = true then (if hitAll [] ((plAll xs 0 139637976727552).map exOf) = true then 13 else 0) else 1
theorem bas_tw {xs ys : List LO} (h : Tws xs ys) : Tws (basOut xs) (basOut ys) ∧ basErr ys = basErr xs := by
  have h2 := plAll_tw 0 139637976727552 h
  unfold basOut basErr
  rw [rightL_tw h, h2.2]
  by_cases h3 : rightL xs = true
  · simp only [if_pos h3]
    by_cases h4 : hitAll [] ((plAll xs 0 139637976727552).map exOf) = true
    · simp only [if_pos h4]; exact ⟨trivial, trivial⟩
    · simp only [if_neg h4]; exact ⟨h2.1, trivial⟩
  · simp only [if_neg h3]; exact ⟨trivial, trivial⟩
theorem LOs.nil (w : World) (a : Option Addr) : LOs w a 0 [] := ⟨Rk.nil _ _ _, fun x hx => by cases hx⟩
theorem basOut_gn {xs : List LO} (hg : ∀ i (h : i < xs.length), xs[i].gn ≤ 40) : (basOut xs).length ≤ xs.length ∧ ∀ i (h : i < (basOut xs).length), (basOut xs)[i].gn ≤ 40 := by
  unfold basOut
  by_cases h3 : rightL xs = true
  · rw [if_pos h3]
    by_cases h4 : hitAll [] ((plAll xs 0 139637976727552).map exOf) = true
    · rw [if_pos h4]; exact ⟨Nat.zero_le _, fun i h => by simp at h⟩
    · rw [if_neg h4]
      refine ⟨by rw [plAll_len]; exact Nat.le_refl _, fun i h => ?_⟩
      have h' : i < xs.length := by rw [plAll_len] at h; exact h
      rw [plAll_get xs i h']
      obtain ⟨b, e⟩ := placedL_is xs[i] (decide (i = 0)) (plEnd (xs.take i) 0 139637976727552)
      rw [e]
      exact hg i h'
  · rw [if_neg h3]; exact ⟨Nat.zero_le _, fun i h => by simp at h⟩
theorem bas_gen {w w' : World} {xs : List LO} {e : Ending} (hx : ∀ x ∈ xs, LOk w x) (h : BasPost w xs e w') : ∃ a c, e = .returned (.tuple #[.slice a (basOut xs).length c, .int .i64 (basErr xs)]) ∧ LOs w' a (basOut xs).length (basOut xs) ∧ (a = none → c = 0) ∧ Below w.heap.size w w' := by
  obtain ⟨hb, h⟩ := h
  unfold basOut basErr
  by_cases h3 : rightL xs = true
  · rw [if_pos h3] at h
    rw [basGo_eq] at h
    simp only [if_pos h3]
    by_cases h4 : hitAll [] ((plAll xs 0 139637976727552).map exOf) = true
    · rw [if_pos h4] at h
      simp only [if_pos h4]
      subst h
      exact ⟨none, 0, rfl, LOs.nil _ _, fun _ => rfl, hb⟩
    · rw [if_neg h4] at h
      simp only [if_neg h4]
      obtain ⟨v, rfl, ho⟩ := h
      rw [List.nil_append] at ho
      obtain ⟨a, c, rfl, hr, hn, _⟩ := own_rk ho (loC_len _) (by decide)
      rw [List.length_map] at hr
      have hro := rightL_of h3
      refine ⟨a, c, by rw [List.length_map], ⟨hr, fun y hy => ?_⟩, hn, hb⟩
      obtain ⟨i, hi, rfl⟩ := List.mem_iff_getElem.1 hy
      exact (plAll_ok hx hro.2.2 hro.2.1 i hi).1.below' hb
  · rw [if_neg h3] at h
    simp only [if_neg h3]
    subst h
    exact ⟨none, 0, rfl, LOs.nil _ _, fun _ => rfl, hb⟩

set_option maxRecDepth 100000 in
set_option maxHeartbeats 8000000 in
theorem layoutBases_walk (a : Option Addr) (c : Nat) (xs : List LO) (w : World) (hX : LOs w a xs.length xs) (hn : a = none → c = 0) (hl : xs.length ≤ 1000000000000) :
    Calls Try.prog 4 #[.slice a xs.length c] w fun e w' => e = .returned (.bool true) ∧ Below w.heap.size w w' := by
  have HX := hid hX
  have HWK := hid works17_any
  have HV := hid (vast_any a c xs w hX hl (fun i hi => (hX.ok _ (List.getElem_mem hi)).gn))
  have HTW := hid (fun (h1 : xs.length ≤ 20) (h2 : ∀ i (h : i < xs.length), xs[i].gn ≤ 40) => twins_any a c xs w hX h1 h2)
  clear hX
  go_enter Try.func4, Try.ntmps4
  go_wp2_with fail
  refine (HV.out).mono ?_
  rintro e' w1 ⟨rfl, b, rfl, hv⟩
  have HV1 := hid hv
  clear hv HV
  cases b
  · have hv2 := HV1.out rfl
    have HG := hid hv2
    clear HV1
    have hl20 := hv2.1
    go_wp2_with fail
    refine (HTW.out hv2.1 hv2.2).mono ?_
    rintro e' w2 ⟨v2, ys, rfl, hown, htl, hb2⟩
    obtain ⟨a2, c2, rfl, hrk, hn2, _⟩ := own_rk hown (loC_len _) (by decide)
    rw [List.length_map] at hrk
    have HY2 := hid (show LOs w2 a2 ys.length ys from ⟨hrk, fun y hy => (htl.ok y hy).1⟩)
    have HTWS := hid (tws_of xs ys htl.len htl.tw)
    have HYL := hid htl.len
    have HB2 := hid hb2
    have HBS := hid (bases_any a2 c2 ys w2 HY2.out (by rw [htl.len]; omega))
    have HYG := hid (show ∀ i (h : i < ys.length), ys[i].gn ≤ 40 from fun i hi => by
      obtain ⟨ta, tc, e⟩ := htl.tw i (by rw [← htl.len]; exact hi) hi
      rw [e]
      exact hv2.2 i (by rw [← htl.len]; exact hi))
    clear hown htl hrk hv2 hb2
    rw [List.length_map]
    go_wp2_with fail
    refine (HBS.out).mono ?_
    rintro e' w3 hbp
    obtain ⟨a3, c3, rfl, hlo, _, hb3⟩ := bas_gen HY2.out.ok hbp
    have HB3 := hid (bthen HB2.out hb3)
    have HO3 := hid hlo
    have HY3 := hid (HY2.out.below' hb3)
    have HX3 := hid (HX.out.below' HB3.out)
    have HRB := hid (rbases_any a c xs w3 HX3.out (by omega))
    clear hbp hlo hb3 HBS
    go_wp2_with fail
    refine (HRB.out).mono ?_
    rintro e' w4 hbp
    obtain ⟨a4, c4, rfl, hlo, _, hb4⟩ := bas_gen HX3.out.ok hbp
    have HB4 := hid (bthen HB3.out hb4)
    have HO4 := hid hlo
    have HO34 := hid (HO3.out.below' hb4)
    have HY4 := hid (HY3.out.below' hb4)
    have HX4 := hid (HX3.out.below' hb4)
    clear hbp hlo hb4 HRB
    have HBT := hid (bas_tw HTWS.out)
    have HGN := hid (basOut_gn HG.out.2)
    have HSA := hid (sames_any a3 c3 a4 c4 (basOut xs) (basOut ys) w4 HO4.out HO34.out HBT.out.1.len HBT.out.1.at (by have := HGN.out.1; omega) HGN.out.2)
    have HSB := hid (fun (wx : World) (hb : Below w4.heap.size w4 wx) => sames_any a2 c2 a c xs ys wx (HX4.out.below' hb) (HY4.out.below' hb) HYL.out HTWS.out.at HG.out.1 HG.out.2)
    rw [HBT.out.2]
    have hee : (basErr xs == basErr xs) = true := by simp
    generalize basErr xs = E at *
    go_wp2_with fail
    refine (HSA.out).mono ?_
    rintro e' w5 ⟨rfl, hb5⟩
    have HB5 := hid (bthen HB4.out hb5)
    have HS5 := hid (HSB.out w5 hb5)
    clear hb5
    go_wp2_with fail
    refine (HS5.out).mono ?_
    rintro e' w6 ⟨rfl, hb6⟩
    have HB6 := hid (bthen HB5.out hb6)
    clear hb6
    go_wp2_with fail
    refine (HWK.out _).mono ?_
    rintro e' w7 ⟨rfl, hb7⟩
    have HB7 := hid (bthen HB6.out hb7)
    clear hb7
    go_wp2_with fail
    go_ret
    exact ⟨rfl, HB7.out⟩
  · clear HV1 HTW
    go_wp2_with fail
    refine (HWK.out _).mono ?_
    rintro e' w2 ⟨rfl, hb⟩
    have HB2 := hid hb
    clear hb
    go_wp2_with fail
    go_ret
    exact ⟨rfl, HB2.out⟩
end Go.Proofs.Ytkpopdkkobelaaa
