/- CredsLends: for every two credentials and node the law returns true; the arguments read as they did. -/
import Derived.Test.YtjiaoppdpomjhaaVU
import Derived.Test.YtjiaoppdpomjhaaVO
namespace Go.Proofs.Ytjiaoppdpomjhaa.lawCredsLends
open Go.ChangeShapes Go.WideShapes Go.ChangeAt Go.RowKit

set_option maxRecDepth 100000 in
theorem lifted (os : Os) (started : os.Started) (H : Type) (enc : TypeId × Value → H) :
    ReturnsInHanded {} Try.checked os 4 .any (Rows.credsLendsSpec.pre6 enc Try.prog Try.f4 Rows.credsLendsRow.domain false) (Rows.credsLendsSpec.post enc Try.prog Try.f4 false true false false) := by
  refine returnsInHanded_of_change (C := Try.checked) own started (by kernel_rfl) Try.func4
    (ChangeSpec.witness6 (enc := enc) (C := Try.checked) false ⟨#[], #[.agg #[.int .u32 0, .int .u32 0, .int .u32 0, .int .u32 0, .slice none 0 0], .agg #[.int .u8 0, .int .u16 0, .int .u32 0, .int .u32 0, .int .i64 0], .agg #[.int .u32 0, .int .u32 0, .int .u32 0, .int .u32 0, .slice none 0 0]], []⟩ 8 (by kernel_rfl) (by kernel_rfl) (by kernel_rfl) (by kernel_rfl)) ?_
  intro W base args ds gs before hval0 hW _ hsz
  have hval : ∀ (j : Nat) t v, Try.f4.params[j]? = some t → args[j]? = some v → Value.okWide Try.prog W .any base t v := hval0
  refine law_contract (C := Try.checked) laidOut rfl rfl Try.underlying4 (fun ds h => ?_) (by kernel_rfl) hW ?_
  · have h' : ds.length = 3 := h
    match ds, h' with
    | [_, _, _], _ => rfl
  · obtain ⟨p, q, hA0, hV, rfl, hfz, hnd⟩ := hW
    have hA : DataW.TrodAll enc Try.prog W 0 (fun _ => true) true Try.f4.params.toList args.toList ds p := hA0
    rw [Try.params4] at hA hval
    obtain ⟨v0, vs0, d0, ds0, p0, q0, hargs, rfl, rfl, h0, r0⟩ := trodAll_cons hA
    obtain ⟨v1, vs1, d1, ds1, p1, q1, rfl, rfl, rfl, h1, r1⟩ := trodAll_cons r0
    obtain ⟨v2, vs2, d2, ds2, p2, q2, rfl, rfl, rfl, h2, r2⟩ := trodAll_cons r1
    obtain ⟨rfl, rfl, rfl⟩ := trodAll_nil r2
    obtain rfl : args = #[v0, v1, v2] := by cases args; simp_all
    obtain ⟨u, e, s, g, a, len, cap, l, rfl, hB, hcn, hlc, hcm, bu, be, bs, bg⟩ := open_creds (hval 0 25 v0 rfl rfl) h0
    obtain ⟨k, m, uid, gid, z, rfl, bk, bm, bui, bgi⟩ := open_meta (hval 1 28 v1 rfl rfl) h1
    have hmax : maxLen = 9223372036854775807 := rfl
    obtain ⟨u2, e2, s2, g2, a2, len2, cap2, l2, rfl, hB2, hcn2, hlc2, hcm2, bu2, be2, bs2, bg2⟩ := open_creds (hval 2 25 v2 rfl rfl) h2
    exact credsLends_walk u e s g k m uid gid z u2 e2 s2 g2 a len cap l a2 len2 cap2 l2 W hB hB2 hcn (by omega) (by omega)

theorem row : Rows.CredsLendsSaid :=
  OpenClaim.holds_of_wide 4 Try.f4 rfl rfl rfl rfl rfl rfl rfl ⟨rfl, rfl, rfl, rfl, rfl⟩ rfl rfl rfl rfl rfl (by kernel_rfl) Try.func4 (by kernel_rfl)
    (of_decide_eq_true (by kernel_rfl)) (by unfold Func.isWrapper; first | (rw [if_pos (by decide +kernel)]; kernel_rfl) | (rw [if_neg (by decide +kernel)]; exact ⟨rfl, rfl⟩))
    (fun os started H enc _ => lifted os started H enc)

theorem proved : Rows.CredsLendsSaid := row
#print axioms proved
end Go.Proofs.Ytjiaoppdpomjhaa.lawCredsLends
