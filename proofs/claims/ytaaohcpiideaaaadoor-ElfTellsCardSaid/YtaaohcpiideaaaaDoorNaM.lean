
/- ElfTells: hostelref12.Copy, eqSegs. -/
import Derived.Test.YtaaohcpiideaaaaDoorNaL
import Derived.Test.YtaaohcpiideaaaaDoorNaB
import Derived.Test.YtaaohcpiideaaaaDoorKS
namespace Go.Proofs.YtaaohcpiideaaaaDoor
open Go.RowKit Go.Sort Go.Shelf
attribute [local go_sem] Oper.semAt_some

theorem Sgs.rk {w : World} {a : Option Addr} {n : Nat} {l : List SG} (h : Sgs w a n l) : Rk w 6 a n (l.map sgC) := h
set_option maxRecDepth 100000 in
set_option maxHeartbeats 4000000 in
theorem rcopy12_any (typ entry phoff : Int) (a : Option Addr) (c : Nat) (sg : List SG) (w : World) (hS : Sgs w a sg.length sg) (hn : sg.length ≤ 1000000) (hc : a = none → c = 0) :
    Calls Tryd.prog 8 #[.agg #[.int .u16 typ, .int .u64 entry, .int .u64 phoff, .slice a sg.length c]] w fun e w' => ∃ a' c', e = .returned (.agg #[.int .u16 typ, .int .u64 entry, .int .u64 phoff, .slice a' sg.length c']) ∧ Sgs w' a' sg.length sg ∧ Below w.heap.size w w' := by
  obtain ⟨W, hW⟩ : ∃ W, W = (w.alloc (.cells #[.int .u16 typ, .int .u64 entry, .int .u64 phoff, .slice a sg.length c] 26)).alloc (.cells #[.int .u16 0, .int .u64 0, .int .u64 0, .slice none 0 0] 26) := ⟨_, rfl⟩
  have HLOW := hid (show Below w.heap.size w W by rw [hW]; exact (bal _).alloc (bal (w := w) _).size _)
  have HR0 := hid (show Row W w.heap.size 26 [.int .u16 typ, .int .u64 entry, .int .u64 phoff, .slice a sg.length c] by rw [hW]; exact (Row.new _ _ _).alloc _)
  have HZ0 := hid (show Row W (w.heap.size + 1) 26 [.int .u16 0, .int .u64 0, .int .u64 0, .slice none 0 0] by
    rw [hW]
    have := Row.new (w.alloc (.cells #[.int .u16 typ, .int .u64 entry, .int .u64 phoff, .slice a sg.length c] 26)) 26 [.int .u16 0, .int .u64 0, .int .u64 0, .slice none 0 0]
    rw [World.size_alloc] at this
    exact this)
  have HS0 := hid (hS.below' HLOW.out).rk
  have HWZ := hid (show W.heap.size = w.heap.size + 2 by rw [hW, World.size_alloc, World.size_alloc])
  have HONE := hid (sgC_one sg)
  have HN1 := hid (show (([] : List (List Value)).length + sg.length) * 40 ≤ 140737488355328 by simp only [List.length_nil]; omega)
  have HN2 := hid (show ([] : List (List Value)).length + sg.length ≤ maxLen by simp only [List.length_nil]; unfold maxLen; omega)
  have HC := hid hc
  have HWB := hid (show w.heap.size + 2 ≤ W.heap.size by rw [HWZ.out]; exact Nat.le_refl _)
  clear hS hc hn
  subst hW
  go_enter Tryd.func8, Tryd.ntmps8
  go_wp2_with (at_builtin; go_must (refine wpList_appKg Tryd.underlying24 infoSeg rfl (by decide) rfl _ _ rfl (w.heap.size + 2) (.slice none 0 0) [] (sg.map sgC) rfl a sg.length c rfl (World.ownsRow_nil _ _ _ _) HS0.out HONE.out HC.out HN1.out HN2.out HWB.out ?_; intro v1 w1 hv1 hg1 hb1; have HV1 := hid hv1; have HB1 := hid hb1; have hr1 := HR0.out.below hb1 (by omega); have hz1 := HZ0.out.below hb1 (by omega); have HR1 := hid hr1; have HZ1 := hid hz1; obtain ⟨a1, c1, hve, hr9, _⟩ := own_rk HV1.out (sgC_len _) (by decide); subst hve; obtain ⟨y0, y1, y2, y3⟩ := hr1.four; obtain ⟨z0, z1, z2, z3⟩ := hz1.four; have f3 := hr1.frozen 3; have g0 := hz1.frozen 0; have g1 := hz1.frozen 1; have g2 := hz1.frozen 2; have g3 := hz1.frozen 3; have hlr := hr1.lt; have hlz := hz1.lt; clear hv1 hg1 hb1 hr1 hz1))
  refine bodyPost_ret (v := .agg #[.int .u16 typ, .int .u64 entry, .int .u64 phoff, .slice a1 ([] ++ sg.map sgC).length c1]) (by simp [results, Tryd.results8, Tryd.f8, go_sem, y0, y1, y2, y3, z0, z1, z2, z3, hlr, hlz]) rfl ?_
  have key : ∀ wz, wz.ownsRow (w.heap.size + 2) 41 6 (.slice a1 ([] ++ sg.map sgC).length c1) ([] ++ sg.map sgC).length ([] ++ sg.map sgC).flatten → Below w.heap.size w wz → ∃ a' c', Ending.returned (.agg #[.int .u16 typ, .int .u64 entry, .int .u64 phoff, .slice a1 ([] ++ sg.map sgC).length c1]) = .returned (.agg #[.int .u16 typ, .int .u64 entry, .int .u64 phoff, .slice a' sg.length c']) ∧ Sgs wz a' sg.length sg ∧ Below w.heap.size w wz := by
    intro wz ho hb
    obtain ⟨a9, c9, h9, hk, _⟩ := own_rk ho (by simpa using sgC_len sg) (by decide)
    cases h9
    refine ⟨a1, c1, by simp, ?_, hb⟩
    show Rk wz 6 a1 sg.length (sg.map sgC)
    simpa using hk
  refine key _ ?_ ?_
  · repeat (first | with_reducible refine own_setLow ?_ (by omega) _ | with_reducible refine World.ownsRow.drew ?_)
    exact HV1.out
  · repeat (first | with_reducible refine bset ?_ (by omega) _)
    exact HLOW.out.trans (HB1.out.mono (by omega))
theorem eqSegs12_any (a b : Option Addr) (c d : Nat) (sg : List SG) (w : World) (hA : Sgs w a sg.length sg) (hB : Sgs w b sg.length sg) (hn : sg.length ≤ 1000000000) :
    Calls Tryd.prog 15 #[.slice a sg.length c, .slice b sg.length d] w fun e w' => e = .returned (.bool true) ∧ Below w.heap.size w w' := by
  have HK := hid (same12_any 0 0 0 a b c d sg w hA hB hn)
  clear hA hB hn
  go_enter Tryd.func15, Tryd.ntmps15
  go_wp2_with fail
  refine HK.out.mono ?_
  rintro e' w1 ⟨rfl, hb⟩
  have HB1 := hid hb
  clear hb
  go_wp2_with fail
  go_ret
  exact ⟨rfl, HB1.out⟩
end Go.Proofs.YtaaohcpiideaaaaDoor
