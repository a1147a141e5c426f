/- symbols.Of. -/
import Derived.Test.YtblefgkhikfmhaaSyC
namespace Go.Proofs.Ytblefgkhikfmhaa
open Go.RowKit Go.Sort Go.Shelf
attribute [local go_sem] Oper.semAt_some

def ofL (os : List OS) (i k : Int) : Int × Int := match findL os i k with
  | none => (0, 1)
  | some s => if s.bind = 0 ∧ s.dfn = true then (valL os i k, 0) else match lookL os s.name with
    | some d => (valL os d.1.1 d.1.2, 0)
    | none => if s.bind = 2 then (0, 0) else (0, 21)
def ofV (p : Int × Int) : Value := .tuple #[.int .u64 p.1, .int .i64 p.2]

set_option maxHeartbeats 4000000 in
theorem of_any (a : Option Addr) (len cap : Nat) (xs : List OB) (i k : Int) (w : World) (hO : Objs w a len xs) (hl : len ≤ 1000000000000) (hsn : ∀ x ∈ xs, x.sn ≤ 4000000000000) :
    Calls Try.prog 18 #[.slice a len cap, .int .i64 i, .int .i64 k] w fun e w' => e = .returned (ofV (ofL (osL xs) i k)) ∧ Below w.heap.size w w' := by
  go_enter Try.func18, Try.ntmps18
  go_wp2_with fail
  refine (find_any a len cap xs i k w hO hl hsn).mono ?_
  rintro e' w1 ⟨rfl, hb⟩
  have HB := hid hb
  clear hb
  cases hF : findL (osL xs) i k with
  | none =>
    have HF := hid hF
    clear hF
    simp only [findV, Option.getD_none, Option.isSome_none, syV]
    go_wp2_with fail
    refine bodyPost_ret (v := ofV (0, 1)) (by simp [results, Try.results18, Try.f18, go_sem, ofV]) rfl ⟨?_, HB.out.alloc HB.out.size _⟩
    unfold ofL; rw [HF.out]
  | some s =>
    have HF := hid hF
    clear hF
    obtain ⟨nm, vl, sz, bd, df⟩ := s
    simp only [findV, Option.getD_some, Option.isSome_some, syV]
    have HB1 := hid (HB.out.alloc HB.out.size (.cells #[.string (ba nm), .int .u64 vl, .int .u64 sz, .int .u8 bd, .bool df] 48))
    have HOW := hid (hO.below' HB1.out)
    by_cases hc : bd = 0
    · subst hc
      cases df
      · have HC := hid (show (false = true) = False by simp)
        go_wp2_with fail
        refine (lookup_any a len cap xs (ba nm) _ HOW.out hl hsn).mono ?_
        rintro e' w2 ⟨rfl, hb⟩
        have HB2 := hid (HB1.out.trans (hb.mono HB1.out.size))
        have hc0 := (hb.cell (p := ⟨w1.heap.size, 3, none⟩) (by simp)).trans ((Row.new w1 48 [.string (ba nm), .int .u64 vl, .int .u64 sz, .int .u8 0, .bool false]).cell 3 (by simp))
        simp only [List.getElem_cons_zero, List.getElem_cons_succ] at hc0
        have hbl := World.block_lt_of_cell? w2 _ hc0
        dsimp only at hbl
        rw [show (ba nm).data.toList = nm from rfl]
        clear hb
        cases hL : lookL (osL xs) nm with
        | some d =>
          have HL := hid hL
          have HOX := hid (hO.below' HB2.out)
          clear hL
          simp only [lkV]
          go_wp2_with fail
          refine (value_any a len cap xs d.1.1 d.1.2 _ HOX.out hl hsn).mono ?_
          rintro e' w3 ⟨rfl, hb⟩
          have HB3 := hid (HB2.out.trans (hb.mono HB2.out.size))
          clear hb
          go_wp2_with fail
          refine bodyPost_ret (v := ofV (valL (osL xs) d.1.1 d.1.2, 0)) (by simp [results, Try.results18, Try.f18, go_sem, ofV]) rfl ⟨?_, HB3.out⟩
          unfold ofL; rw [HF.out]; simp [HL.out, HC.out]
        | none =>
          have HL := hid hL
          clear hL
          simp only [lkV]
          go_wp2_with fail
          refine bodyPost_ret (v := ofV (0, 21)) (by simp [results, Try.results18, Try.f18, go_sem, ofV]) rfl ⟨?_, HB2.out⟩
          unfold ofL; rw [HF.out]; simp [HL.out, HC.out]
      · go_wp2_with fail
        refine (value_any a len cap xs i k _ HOW.out hl hsn).mono ?_
        rintro e' w2 ⟨rfl, hb⟩
        have HB2 := hid (HB1.out.trans (hb.mono HB1.out.size))
        clear hb
        go_wp2_with fail
        refine bodyPost_ret (v := ofV (valL (osL xs) i k, 0)) (by simp [results, Try.results18, Try.f18, go_sem, ofV]) rfl ⟨?_, HB2.out⟩
        unfold ofL; rw [HF.out]; simp
    · have HC := hid hc
      go_wp2_with fail
      refine (lookup_any a len cap xs (ba nm) _ HOW.out hl hsn).mono ?_
      rintro e' w2 ⟨rfl, hb⟩
      have HB2 := hid (HB1.out.trans (hb.mono HB1.out.size))
      have hc0 := (hb.cell (p := ⟨w1.heap.size, 3, none⟩) (by simp)).trans ((Row.new w1 48 [.string (ba nm), .int .u64 vl, .int .u64 sz, .int .u8 bd, .bool df]).cell 3 (by simp))
      simp only [List.getElem_cons_zero, List.getElem_cons_succ] at hc0
      have hbl := World.block_lt_of_cell? w2 _ hc0
      dsimp only at hbl
      rw [show (ba nm).data.toList = nm from rfl]
      clear hb
      cases hL : lookL (osL xs) nm with
      | some d =>
        have HL := hid hL
        have HOX := hid (hO.below' HB2.out)
        clear hL
        simp only [lkV]
        go_wp2_with fail
        refine (value_any a len cap xs d.1.1 d.1.2 _ HOX.out hl hsn).mono ?_
        rintro e' w3 ⟨rfl, hb⟩
        have HB3 := hid (HB2.out.trans (hb.mono HB2.out.size))
        clear hb
        go_wp2_with fail
        refine bodyPost_ret (v := ofV (valL (osL xs) d.1.1 d.1.2, 0)) (by simp [results, Try.results18, Try.f18, go_sem, ofV]) rfl ⟨?_, HB3.out⟩
        unfold ofL; rw [HF.out]; simp [HL.out, HC.out]
      | none =>
        have HL := hid hL
        clear hL
        simp only [lkV]
        by_cases h2 : bd = 2
        · subst h2
          go_wp2_with fail
          refine bodyPost_ret (v := ofV (0, 0)) (by simp [results, Try.results18, Try.f18, go_sem, ofV]) rfl ⟨?_, HB2.out⟩
          unfold ofL; rw [HF.out]; simp [HL.out, HC.out]
        · have HN := hid h2
          go_wp2_with fail
          refine bodyPost_ret (v := ofV (0, 21)) (by simp [results, Try.results18, Try.f18, go_sem, ofV]) rfl ⟨?_, HB2.out⟩
          unfold ofL; rw [HF.out]; simp [HL.out, HC.out, HN.out]
end Go.Proofs.Ytblefgkhikfmhaa
