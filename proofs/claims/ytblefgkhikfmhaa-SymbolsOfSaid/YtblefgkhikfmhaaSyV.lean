/- one: a symbol is told as the document says. -/
import Derived.Test.YtblefgkhikfmhaaSyU
namespace Go.Proofs.Ytblefgkhikfmhaa
open Go.RowKit Go.Sort Go.Shelf
attribute [local go_sem] Oper.semAt_some

set_option maxHeartbeats 4000000 in
theorem one_any (a b : Option Addr) (len cap cap2 : Nat) (xs ys : List OB) (i k : Int) (w : World) (hO : Objs w a len xs) (hP : Objs w b len ys) (he : osL xs = osL ys) (hl : len ≤ 1000000000000) (hsn : ∀ x ∈ xs, x.sn ≤ 4000000000000) (hsn2 : ∀ x ∈ ys, x.sn ≤ 4000000000000) :
    Calls Try.prog 17 #[.slice a len cap, .slice b len cap2, .int .i64 i, .int .i64 k] w fun e w' => e = .returned (.bool true) ∧ Below w.heap.size w w' := by
  have HO := hid hO
  have HP := hid hP
  have HE := hid he
  clear hO hP he
  go_enter Try.func17, Try.ntmps17
  go_wp2_with fail
  refine (of_any a len cap xs i k w HO.out hl hsn).mono ?_
  rintro e' w1 ⟨rfl, hb⟩
  have HB1 := hid hb
  clear hb
  rw [HE.out]
  simp only [ofV]
  go_wp2_with fail
  refine (rof_any b len cap2 ys i k w1 (HP.out.below' HB1.out) hl hsn2).mono ?_
  rintro e' w2 ⟨rfl, hb⟩
  have HB2 := hid (HB1.out.trans (hb.mono HB1.out.size))
  clear hb
  simp only [ofV]
  go_wp2_with fail
  refine (value_any a len cap xs i k w2 (HO.out.below' HB2.out) hl hsn).mono ?_
  rintro e' w3 ⟨rfl, hb⟩
  have HB3 := hid (HB2.out.trans (hb.mono HB2.out.size))
  clear hb
  rw [HE.out]
  go_wp2_with fail
  refine (rvalue_any b len cap2 ys i k w3 (HP.out.below' HB3.out) hl hsn2).mono ?_
  rintro e' w4 ⟨rfl, hb⟩
  have HB4 := hid (HB3.out.trans (hb.mono HB3.out.size))
  clear hb
  go_wp2_with fail
  go_ret
  exact ⟨rfl, HB4.out⟩
end Go.Proofs.Ytblefgkhikfmhaa
