
/- LayoutApart: for every list of objects and every object the law returns true; the arguments read as they did. -/
import Derived.Test.YtkpopdkkobelaaaLaN
import Derived.Test.YtkpopdkkobelaaaLaO
namespace Go.Proofs.Ytkpopdkkobelaaa.lawLayoutApart
open Go.ChangeShapes Go.WideShapes Go.ChangeAt Go.RowKit
open Go.ChangeMaps
set_option maxRecDepth 100000 in
theorem lifted (os : Os) (started : os.Started) (H : Type) (enc : TypeId × Value → H) :
    ReturnsInHanded {} Try.checked os 6 .any (Rows.layoutApartSpec.pre6 enc Try.prog Try.f6 Rows.layoutApartRow.domain false) (Rows.layoutApartSpec.post enc Try.prog Try.f6 false true false false) := by
  refine returnsInHanded_of_change_sized (C := Try.checked) own started (by kernel_rfl) Try.func6
    (ChangeSpec.witness6 (enc := enc) (C := Try.checked) false ⟨#[], #[.slice none 0 0, .agg #[.int .i64 0, .int .u64 0, .int .u16 0, .int .u64 0, .int .u64 0, .slice none 0 0, .slice none 0 0, .string ByteArray.empty, .string ByteArray.empty, .slice none 0 0, .slice none 0 0]], []⟩ 8 (by kernel_rfl) (by kernel_rfl) (by kernel_rfl) (by kernel_rfl)) ?_
  intro W base args ds gs before hval0 hW _ hsz _
  have hval : ∀ (j : Nat) t v, Try.f6.params[j]? = some t → args[j]? = some v → Value.okWide Try.prog W .any base t v := hval0
  refine law_contract (C := Try.checked) laidOut rfl rfl Try.underlying4 (fun ds h => ?_) (by kernel_rfl) hW ?_
  · have h' : ds.length = 2 := h
    match ds, h' with
    | [_, _], _ => rfl
  · obtain ⟨p, q, hA0, hV, rfl, hfz, hnd⟩ := hW
    have hA : DataW.TrodAll enc Try.prog W 0 (fun _ => true) true Try.f6.params.toList args.toList ds p := hA0
    rw [Try.params6] at hA hval
    obtain ⟨v0, vs0, d0, ds0, p0, q0, hargs, rfl, rfl, h0, r0⟩ := trodAll_cons hA
    obtain ⟨v1, vs1, d1, ds1, p1, q1, rfl, rfl, rfl, h1, r1⟩ := trodAll_cons r0
    obtain ⟨rfl, rfl, rfl⟩ := trodAll_nil r1
    obtain rfl : args = #[v0, v1] := by cases args; simp_all
    obtain ⟨rfl, rfl⟩ := trodVars_none hV
    have hz : (DataW.weightsEach Try.prog [35, 33] [d0, d1]).all (· ≤ reachBytes) = true := hsz
    simp only [DataW.weightsEach, List.all_append, Bool.and_eq_true] at hz
    have hz0 := hz.1
    have hz1 := hz.2.1
    obtain ⟨a0, len0, cap0, xs0, rfl, hO0, hlc0, hcm0, hcn0⟩ := open_los (hval 0 35 v0 rfl rfl) h0 hz0
    obtain rfl := hO0.hlen
    obtain ⟨x1, rfl, hx1⟩ := open_lo (hval 1 33 v1 rfl rfl) h1 hz1
    exact layoutApart_walk a0 cap0 xs0 x1 W hO0 hcn0 (by omega) hx1

theorem row : Rows.LayoutApartSaid :=
  OpenClaim.holds_of_wide 6 Try.f6 rfl rfl rfl rfl rfl rfl rfl ⟨rfl, rfl, rfl, rfl, rfl⟩ rfl rfl rfl rfl rfl (by kernel_rfl) Try.func6 (by kernel_rfl)
    (of_decide_eq_true (by kernel_rfl)) (by unfold Func.isWrapper; first | (rw [if_pos (by decide +kernel)]; kernel_rfl) | (rw [if_neg (by decide +kernel)]; exact ⟨rfl, rfl⟩))
    (fun os started H enc _ => lifted os started H enc)

theorem proved : Rows.LayoutApartSaid := row
#print axioms proved
end Go.Proofs.Ytkpopdkkobelaaa.lawLayoutApart
