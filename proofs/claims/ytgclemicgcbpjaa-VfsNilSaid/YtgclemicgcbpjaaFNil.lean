/- VfsNil: for every credentials, way and numbers the law returns true; the arguments read as they did. -/
import Derived.Test.YtgclemicgcbpjaaFN
namespace Go.Proofs.Ytgclemicgcbpjaa.lawVfsNil
open Go.ChangeShapes Go.WideShapes Go.ChangeAt Go.RowKit
open Go.ChangeMaps
set_option maxRecDepth 100000 in
theorem lifted (os : Os) (started : os.Started) (H : Type) (enc : TypeId × Value → H) :
    ReturnsInHanded {} Try.checked os 3 .any (Rows.vfsNilSpec.pre6 enc Try.prog Try.f3 Rows.vfsNilRow.domain false) (Rows.vfsNilSpec.post enc Try.prog Try.f3 false true false false) := by
  refine returnsInHanded_of_change_sized (C := Try.checked) own started (by kernel_rfl) Try.func3
    (ChangeSpec.witness6 (enc := enc) (C := Try.checked) false ⟨#[], #[.agg #[.int .u32 0, .int .u32 0, .int .u32 0, .int .u32 0, .slice none 0 0], .agg #[.int .i64 0, .string ByteArray.empty, .bool false], .agg #[.int .i64 0, .int .i64 0]], []⟩ 8 (by kernel_rfl) (by kernel_rfl) (by kernel_rfl) (by kernel_rfl)) ?_
  intro W base args ds gs before hval0 hW _ hsz _
  have hval : ∀ (j : Nat) t v, Try.f3.params[j]? = some t → args[j]? = some v → Value.okWide Try.prog W .any base t v := hval0
  refine law_contract (C := Try.checked) laidOut rfl rfl Try.underlying4 (fun ds h => ?_) (by kernel_rfl) hW ?_
  · have h' : ds.length = 3 := h
    match ds, h' with
    | [_, _, _], _ => rfl
  · obtain ⟨p, q, hA0, hV, rfl, hfz, hnd⟩ := hW
    have hA : DataW.TrodAll enc Try.prog W 0 (fun _ => true) true Try.f3.params.toList args.toList ds p := hA0
    rw [Try.params3] at hA hval
    obtain ⟨v0, vs0, d0, ds0, p0, q0, hargs, rfl, rfl, h0, r0⟩ := trodAll_cons hA
    obtain ⟨v1, vs1, d1, ds1, p1, q1, rfl, rfl, rfl, h1, r1⟩ := trodAll_cons r0
    obtain ⟨v2, vs2, d2, ds2, p2, q2, rfl, rfl, rfl, h2, r2⟩ := trodAll_cons r1
    obtain ⟨rfl, rfl, rfl⟩ := trodAll_nil r2
    obtain rfl : args = #[v0, v1, v2] := by cases args; simp_all
    obtain ⟨rfl, rfl⟩ := trodVars_none hV
    have hz : (DataW.weightsEach Try.prog [25, 27, 28] [d0, d1, d2]).all (· ≤ reachBytes) = true := hsz
    simp only [DataW.weightsEach, List.all_append, Bool.and_eq_true] at hz
    have hz0 := hz.1
    have hz1 := hz.2.1
    have hz2 := hz.2.2.1
    obtain ⟨u0, e0, s0, g0, a0, len0, cap0, l0, rfl, hB0, hcn0, hlc0, hcm0, bu0, be0, bs0, bg0⟩ := open_creds (hval 0 25 v0 rfl rfl) h0
    obtain ⟨f1, p1, t1, rfl, hp1⟩ := open_way (hval 1 27 v1 rfl rfl) h1 hz1
    obtain ⟨p2, q2, rfl, _, _⟩ := open_array2 Try.underlying28 Try.underlying3 (by kernel_rfl) (by kernel_rfl) (hval 2 28 v2 rfl rfl) h2
    exact vfsNil_walk u0 e0 s0 g0 a0 len0 cap0 f1 (ba p1) t1 p2 q2 W

theorem row : Rows.VfsNilSaid :=
  OpenClaim.holds_of_wide 3 Try.f3 rfl rfl rfl rfl rfl rfl rfl ⟨rfl, rfl, rfl, rfl, rfl⟩ rfl rfl rfl rfl rfl (by kernel_rfl) Try.func3 (by kernel_rfl)
    (of_decide_eq_true (by kernel_rfl)) (by unfold Func.isWrapper; first | (rw [if_pos (by decide +kernel)]; kernel_rfl) | (rw [if_neg (by decide +kernel)]; exact ⟨rfl, rfl⟩))
    (fun os started H enc _ => lifted os started H enc)

theorem proved : Rows.VfsNilSaid := row
#print axioms proved
end Go.Proofs.Ytgclemicgcbpjaa.lawVfsNil
