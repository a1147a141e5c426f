
/- ShebangParses' walk. -/
import Derived.Test.YtnepccjcjkeneaaDoorU6
import Derived.Test.YtnepccjcjkeneaaDoorU8
import Derived.Test.YtnepccjcjkeneaaDoorUR
namespace Go.Proofs.YtnepccjcjkeneaaDoor
open Go.RowKit Go.Sort
open Go.ChangeShapes Go.WideShapes Go.ChangeAt

set_option maxRecDepth 100000 in
set_option maxHeartbeats 4000000 in
theorem shebangParses_walk (a : Option Addr) (len cap : Nat) (l : BL) (w : World) (hB : Byt w a len l) (hc : len ≤ cap) :
    Calls Tryd.prog 3 #[.slice a len cap] w fun e' w' => e' = .returned (.bool true) ∧ Below w.heap.size w w' := by
  by_cases hbig : 131072 < len
  · have d1 : decide ((131072 : Int) < (len : Int)) = true := by simp; omega
    clear hB hbig
    go_enter Tryd.func3, Tryd.ntmps3
    go_wp2_with fail
    refine (works21_any _).mono ?_
    rintro e' w1 ⟨rfl, hb⟩
    have HB1 := hid hb
    clear hb
    go_wp2_with fail
    go_ret
    exact ⟨rfl, HB1.out⟩
  · have d1 : decide ((131072 : Int) < (len : Int)) = false := by simp; omega
    have hll := hB.hlen
    have HBY := hid hB
    have HLE := hid (show len ≤ 131072 by omega)
    have HCC := hid hc
    have HR := hid (roomy_any a len cap l w hB (by omega))
    clear hB hc hbig
    go_enter Tryd.func3, Tryd.ntmps3
    go_wp2_with fail
    refine (HR.out).mono ?_
    rintro e' w1 ⟨rfl, hr, hb⟩
    have HB1 := hid hb
    have HR1 := hid hr
    have HPA := hid (parse_any (some ⟨w.heap.size, 0, none⟩) len (len + 7) l w1 (by unfold room at hr; exact hr.byt hll) (by omega) (by have := HLE.out; omega))
    unfold ParPost parV at HPA
    clear hr hb
    go_wp2_with fail
    refine (HPA.out).mono ?_
    rintro e' w2 ⟨rfl, hb⟩
    have HB2 := hid (bthen HB1.out hb)
    have HR2 := hid (HR1.out.below hb HR1.out.lt)
    have HY2 := hid (HBY.out.below' HB2.out)
    have HRP := hid (rparse_any a len cap l w2 HY2.out HCC.out (by have := HLE.out; omega))
    unfold ParPost parV at HRP
    clear hb HPA
    go_wp2_with fail
    refine (HRP.out).mono ?_
    rintro e' w3 ⟨rfl, hb⟩
    have HB3 := hid (bthen HB2.out hb)
    have HR3 := hid (HR2.out.below hb HR2.out.lt)
    have HY3 := hid (HY2.out.below' hb)
    have HK := hid (kept_any w.heap.size a len (len + 7) len cap l l w3 hll rfl HR3.out HY3.out (by have := HLE.out; omega) (by have := HLE.out; omega))
    rw [eqB_self] at HK
    have hq1 := ba_beq (parL l).1 (parL l).1
    have hq2 := ba_beq (parL l).2.1 (parL l).2.1
    clear hb HRP
    generalize (parL l).1 = x at *
    generalize (parL l).2.1 = y at *
    generalize (parL l).2.2.1 = t at *
    generalize (parL l).2.2.2 = m at *
    simp only [decide_true] at hq1 hq2
    go_wp2_with fail
    refine (HK.out).mono ?_
    rintro e' w4 ⟨rfl, q, rfl⟩
    have HB4 := hid (bdN HB3.out q)
    go_wp2_with fail
    refine (works21_any _).mono ?_
    rintro e' w5 ⟨rfl, hb⟩
    have HB5 := hid (bthen HB4.out hb)
    clear hb
    go_wp2_with fail
    go_ret
    exact ⟨rfl, HB5.out⟩
end Go.Proofs.YtnepccjcjkeneaaDoor
