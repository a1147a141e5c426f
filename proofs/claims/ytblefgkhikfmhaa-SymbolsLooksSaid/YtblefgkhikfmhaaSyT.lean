/- The reference: Of. -/
import Derived.Test.YtblefgkhikfmhaaSyS
namespace Go.Proofs.Ytblefgkhikfmhaa
open Go.RowKit Go.Sort Go.Shelf
attribute [local go_sem] Oper.semAt_some

set_option maxHeartbeats 4000000 in
theorem rof_any (a : Option Addr) (len cap : Nat) (xs : List OB) (i k : Int) (w : World) (hO : Objs w a len xs) (hl : len ≤ 1000000000000) (hsn : ∀ x ∈ xs, x.sn ≤ 4000000000000) :
    Calls Try.prog 23 #[.slice a len cap, .int .i64 i, .int .i64 k] w fun e w' => e = .returned (ofV (ofL (osL xs) i k)) ∧ Below w.heap.size w w' := by
  go_enter Try.func23, Try.ntmps23
  go_wp2_with fail
  refine (rthere_any a len cap xs i k w hO hl hsn).mono ?_
  rintro e' w1 ⟨rfl, hw⟩
  subst hw
  have HB := hid (Below.refl w1.heap.size w1)
  cases hF : findL (osL xs) i k with
  | none =>
    have HF := hid hF
    clear hF
    simp only [Option.isSome_none]
    go_wp2_with fail
    refine bodyPost_ret (v := ofV (0, 1)) (by simp [results, Try.results23, Try.f23, go_sem, ofV]) rfl ⟨?_, HB.out⟩
    unfold ofL; rw [HF.out]
  | some s =>
    have HF := hid hF
    clear hF
    obtain ⟨i, k, rfl, rfl, hi, hs⟩ := findL_some HF.out
    have hol : (osL xs).length = len := by rw [← hO.hlen]; simp [osL]
    have hlt : i < len := by rw [hol] at hi; exact hi
    obtain ⟨b, off, rfl, ⟨_, x1, _⟩, x6, x7, x8, x9, x10⟩ := hO.cells (i := i) (by rw [hO.hlen]; exact hlt)
    have hsy := hO.syms _ (List.getElem_mem (n := i) (by rw [hO.hlen]; exact hlt))
    have hsl := hO.sn (List.getElem_mem (n := i) (by rw [hO.hlen]; exact hlt))
    have hsb := hsn _ (List.getElem_mem (n := i) (by rw [hO.hlen]; exact hlt))
    have hs' : (xs[i]'(by rw [hO.hlen]; exact hlt)).sy[k]? = some s := by rw [← hs]; simp [osL, toOS]
    generalize xs[i]'(by rw [hO.hlen]; exact hlt) = x at *
    obtain ⟨hk, hsk⟩ := List.getElem?_eq_some_iff.1 hs'
    obtain ⟨bs, os, es, y0, y1, y2, y3, y4⟩ := sy_cells hsy hk
    rw [hsk] at y0 y1 y2 y3 y4
    rw [hsl] at hk
    replace x9 : w1.cell? ⟨b, off + i * 11 + 6 + 3, none⟩ = _ := x9
    rw [es] at x9
    have hbl := World.block_lt_of_cell? w1 _ x1
    have hbs := World.block_lt_of_cell? w1 _ y1
    dsimp only at hbl hbs
    clear hi hs hs' hsk x6 x7 x8 x10 hsy
    obtain ⟨nm, vl, sz, bd, df⟩ := s
    dsimp only at y0 y1 y2 y3 y4
    simp only [Option.isSome_some]
    have HB1 := hid (HB.out.alloc HB.out.size (.cells #[.string (ba nm), .int .u64 vl, .int .u64 sz, .int .u8 bd, .bool df] 48))
    have HOW := hid (hO.below' HB1.out)
    by_cases hc : bd = 0
    · subst hc
      cases df
      · have HC := hid (show (false = true) = False by simp)
        go_wp2_with fail
        refine (rlookup_any _ len cap xs nm _ HOW.out hl hsn).mono ?_
        rintro e' w2 ⟨rfl, hb⟩
        have HB2 := hid (HB1.out.trans (hb.mono HB1.out.size))
        have hc0 := (hb.cell (p := ⟨w1.heap.size, 3, none⟩) (by simp)).trans ((Row.new w1 48 [.string (ba nm), .int .u64 vl, .int .u64 sz, .int .u8 0, .bool false]).cell 3 (by simp))
        simp only [List.getElem_cons_zero, List.getElem_cons_succ] at hc0
        have hbl := World.block_lt_of_cell? w2 _ hc0
        dsimp only at hbl
        clear hb
        cases hL : lookL (osL xs) nm with
        | some d =>
          have HL := hid hL
          have HOX := hid (hO.below' HB2.out)
          clear hL
          simp only [lkV]
          go_wp2_with fail
          refine (rvalue_any _ len cap xs d.1.1 d.1.2 _ HOX.out hl hsn).mono ?_
          rintro e' w3 ⟨rfl, hb⟩
          have HB3 := hid (HB2.out.trans (hb.mono HB2.out.size))
          clear hb
          go_wp2_with fail
          refine bodyPost_ret (v := ofV (valL (osL xs) d.1.1 d.1.2, 0)) (by simp [results, Try.results23, Try.f23, go_sem, ofV]) rfl ⟨?_, HB3.out⟩
          unfold ofL; rw [HF.out]; simp [HL.out, HC.out]
        | none =>
          have HL := hid hL
          clear hL
          simp only [lkV]
          go_wp2_with fail
          refine bodyPost_ret (v := ofV (0, 21)) (by simp [results, Try.results23, Try.f23, go_sem, ofV]) rfl ⟨?_, HB2.out⟩
          unfold ofL; rw [HF.out]; simp [HL.out, HC.out]
      · go_wp2_with fail
        refine (rvalue_any _ len cap xs (i : Int) (k : Int) _ HOW.out hl hsn).mono ?_
        rintro e' w2 ⟨rfl, hb⟩
        have HB2 := hid (HB1.out.trans (hb.mono HB1.out.size))
        clear hb
        go_wp2_with fail
        refine bodyPost_ret (v := ofV (valL (osL xs) (i : Int) (k : Int), 0)) (by simp [results, Try.results23, Try.f23, go_sem, ofV]) rfl ⟨?_, HB2.out⟩
        unfold ofL; rw [HF.out]; simp
    · have HC := hid hc
      go_wp2_with fail
      refine (rlookup_any _ len cap xs nm _ HOW.out hl hsn).mono ?_
      rintro e' w2 ⟨rfl, hb⟩
      have HB2 := hid (HB1.out.trans (hb.mono HB1.out.size))
      have hc0 := (hb.cell (p := ⟨w1.heap.size, 3, none⟩) (by simp)).trans ((Row.new w1 48 [.string (ba nm), .int .u64 vl, .int .u64 sz, .int .u8 bd, .bool df]).cell 3 (by simp))
      simp only [List.getElem_cons_zero, List.getElem_cons_succ] at hc0
      have hbl := World.block_lt_of_cell? w2 _ hc0
      dsimp only at hbl
      clear hb
      cases hL : lookL (osL xs) nm with
      | some d =>
        have HL := hid hL
        have HOX := hid (hO.below' HB2.out)
        clear hL
        simp only [lkV]
        go_wp2_with fail
        refine (rvalue_any _ len cap xs d.1.1 d.1.2 _ HOX.out hl hsn).mono ?_
        rintro e' w3 ⟨rfl, hb⟩
        have HB3 := hid (HB2.out.trans (hb.mono HB2.out.size))
        clear hb
        go_wp2_with fail
        refine bodyPost_ret (v := ofV (valL (osL xs) d.1.1 d.1.2, 0)) (by simp [results, Try.results23, Try.f23, go_sem, ofV]) rfl ⟨?_, HB3.out⟩
        unfold ofL; rw [HF.out]; simp [HL.out, HC.out]
      | none =>
        have HL := hid hL
        clear hL
        simp only [lkV]
        by_cases h2 : bd = 2
        · subst h2
          go_wp2_with fail
          refine bodyPost_ret (v := ofV (0, 0)) (by simp [results, Try.results23, Try.f23, go_sem, ofV]) rfl ⟨?_, HB2.out⟩
          unfold ofL; rw [HF.out]; simp [HL.out, HC.out]
        · have HN := hid h2
          go_wp2_with fail
          refine bodyPost_ret (v := ofV (0, 21)) (by simp [results, Try.results23, Try.f23, go_sem, ofV]) rfl ⟨?_, HB2.out⟩
          unfold ofL; rw [HF.out]; simp [HL.out, HC.out, HN.out]
end Go.Proofs.Ytblefgkhikfmhaa
