
/- stack's reader: the texts at addresses. -/
import Derived.Test.YtihaakcfegelkaaDoorTk4
import Derived.Test.YtihaakcfegelkaaDoorSL
import Derived.Test.YtihaakcfegelkaaDoorKE
import Derived.Test.YtihaakcfegelkaaDoorShelf
namespace Go.Proofs.YtihaakcfegelkaaDoor
open Go.RowKit Go.Sort
attribute [local go_sem] Oper.semAt_some

structure TxK (l : List UInt8) (sp : Nat) (ads : List Nat) (k : Nat) (ds : List BL) : Prop where
  err : (textsR l sp ads).1 = (textsR l sp (ads.drop k)).1
  val : (textsR l sp (ads.drop k)).1 = 0 → (textsR l sp ads).2 = ds ++ (textsR l sp (ads.drop k)).2
  len : ds.length = k
theorem TxK.zero (l : List UInt8) (sp : Nat) (ads : List Nat) : TxK l sp ads 0 [] := ⟨rfl, fun _ => rfl, rfl⟩
theorem TxK.bad {l : List UInt8} {sp : Nat} {ads : List Nat} {k : Nat} {ds : List BL} (h : TxK l sp ads k ds) (hk : k < ads.length) (he : (textR l sp ads[k]).1 ≠ 0) : (textsR l sp ads).1 = (textR l sp ads[k]).1 := by
  rw [h.err, List.drop_eq_getElem_cons hk]; unfold textsR; rw [if_pos he]
theorem TxK.succ {l : List UInt8} {sp : Nat} {ads : List Nat} {k : Nat} {ds : List BL} (h : TxK l sp ads k ds) (hk : k < ads.length) (he : (textR l sp ads[k]).1 = 0) : TxK l sp ads (k + 1) (ds ++ [(textR l sp ads[k]).2]) := by
  have e1 : (textsR l sp (ads.drop k)).1 = (textsR l sp (ads.drop (k + 1))).1 ∧ ((textsR l sp (ads.drop (k + 1))).1 = 0 → (textsR l sp (ads.drop k)).2 = (textR l sp ads[k]).2 :: (textsR l sp (ads.drop (k + 1))).2) := by
    rw [List.drop_eq_getElem_cons hk]
    conv => lhs; lhs; unfold textsR
    conv => rhs; intro h; lhs; unfold textsR
    rw [if_neg (by simpa using he)]
    by_cases c : (textsR l sp (ads.drop (k + 1))).1 = 0
    · rw [if_neg (by simpa using c)]
      exact ⟨c.symm, fun _ => rfl⟩
    · rw [if_pos c]
      exact ⟨rfl, fun h => absurd h c⟩
  refine ⟨by rw [h.err, e1.1], fun h0 => ?_, by simp [h.len]⟩
  rw [h.val (by rw [e1.1]; exact h0), e1.2 h0, List.append_assoc, List.singleton_append]
theorem TxK.fin {l : List UInt8} {sp : Nat} {ads : List Nat} {k : Nat} {ds : List BL} (h : TxK l sp ads k ds) (hk : ads.length ≤ k) : textsR l sp ads = (0, ds) := by
  have e : textsR l sp (ads.drop k) = (0, []) := by rw [List.drop_eq_nil_of_le hk]; rfl
  have e1 := h.err
  have e2 := h.val
  rw [e] at e1 e2
  have := e2 rfl
  rw [List.append_nil] at this
  exact Prod.ext e1 this
theorem textsR_no (l : List UInt8) (sp : Nat) (ads : List Nat) (h : (textsR l sp ads).1 ≠ 0) : (textsR l sp ads).2 = [] := by
  cases ads with
  | nil => rfl
  | cons a ads =>
    unfold textsR at h ⊢
    by_cases c1 : (textR l sp a).1 ≠ 0
    · rw [if_pos c1]
    · rw [if_neg c1] at h ⊢
      by_cases c2 : (textsR l sp ads).1 ≠ 0
      · rw [if_pos c2]
      · rw [if_neg c2] at h
        exact absurd rfl h
def TxPost (w : World) (l : List UInt8) (sp : Nat) (ads : List Nat) (e : Ending) (w' : World) : Prop :=
  ∃ v, e = .returned (.tuple #[v, .int .i64 (textsR l sp ads).1]) ∧ OwnS w' w.heap.size v (textsR l sp ads).2 ∧ Below w.heap.size w w'
theorem txP_no {w w' : World} {l : List UInt8} {sp : Nat} {ads : List Nat} {er : Nat} (h : (textsR l sp ads).1 = (er : Int)) (he : (er : Int) ≠ 0) (hb : Below w.heap.size w w') : TxPost w l sp ads (.returned (.tuple #[.slice none 0 0, .int .i64 (er : Int)])) w' :=
  ⟨.slice none 0 0, by rw [h], by rw [textsR_no _ _ _ (by rw [h]; exact he)]; exact ownS_nil _ _, hb⟩
theorem txP_yes {w w' : World} {l : List UInt8} {sp : Nat} {ads : List Nat} {v : Value} {ds : List BL} (h : textsR l sp ads = (0, ds)) (ho : OwnS w' w.heap.size v ds) (hb : Below w.heap.size w w') : TxPost w l sp ads (.returned (.tuple #[v, .int .i64 0])) w' :=
  ⟨v, by rw [h], by rw [h]; exact ho, hb⟩
theorem textR_out {l : List UInt8} {sp x : Nat} (h : x < sp ∨ l.length ≤ x - sp) : (textR l sp x).1 = 25 := by unfold textR; rw [if_pos h]
theorem textR_none {l : List UInt8} {sp x : Nat} (h : ¬ (x < sp ∨ l.length ≤ x - sp)) (hf : (l.drop (x - sp)).findIdx? (· == 0) = none) : (textR l sp x).1 = 25 := by unfold textR; rw [if_neg h, hf]
theorem textR_long {l : List UInt8} {sp x i : Nat} (h : ¬ (x < sp ∨ l.length ≤ x - sp)) (hf : (l.drop (x - sp)).findIdx? (· == 0) = some i) (hi : 256 < i) : (textR l sp x).1 = 12 := by unfold textR; rw [if_neg h, hf]; simp only [if_pos hi]
theorem textR_yes {l : List UInt8} {sp x i : Nat} (h : ¬ (x < sp ∨ l.length ≤ x - sp)) (hf : (l.drop (x - sp)).findIdx? (· == 0) = some i) (hi : ¬ 256 < i) : textR l sp x = (0, (l.drop (x - sp)).take i) := by unfold textR; rw [if_neg h, hf]; simp only [if_neg hi]
theorem strs_one (x : BL) : ∀ u ∈ [Value.string (ba x)], u.oneCell' = true := by intro u hu; rw [List.mem_singleton.1 hu]; rfl
theorem ownS_snoc {w : World} {base n : Nat} {v : Value} {ds es : List BL} {x : BL} (h : w.ownsRow base 9 1 v n (strs ds ++ [.string (ba x)])) (he : es = ds ++ [x]) : OwnS w base v es := by
  subst he
  refine own_ext h ?_ (by rw [strsS_snoc])
  have := h.1
  simp [strs] at this ⊢
  omega

set_option maxRecDepth 100000 in
set_option maxHeartbeats 4000000 in
theorem texts_any (W0 w : World) (r : Nat) (a : Option Addr) (len cap sp p : Nat) (l : List UInt8) (aa : Option Addr) (ac : Nat) (ads : List Nat) (h : RD W0 w r a len cap sp l p) (hsp : sp < 18446744073709551616) (hcap : len ≤ cap) (hcm : cap ≤ maxLen) (has : Cel w aa ads.length (u64s ads)) (h32 : ads.length ≤ 1000) (hb64 : ∀ x ∈ ads, x < 18446744073709551616) :
    Calls Tryd.prog 34 #[.pointer (some ⟨r, 0, none⟩), .slice aa ads.length ac] w (TxPost w l sp ads) := by
  have HD := hid h
  have HAS := hid has
  have H64 := hid hb64
  have HCC := hid hcap
  have HCM := hid hcm
  clear h has hb64 hcap hcm
  go_enter Tryd.func34, Tryd.ntmps34
  go_wp2_with fail
  go_loopw [6, 13] (fun v i wr => ∃ k : Nat, ∃ ds : List BL, k ≤ ads.length ∧ i = .int .i64 k ∧ OwnS wr w.heap.size v ds ∧ Below w.heap.size w wr ∧ TxK l sp ads k ds) (fun _ i _ => ads.length - (intOf i).toNat)
  case atStart => exact ⟨0, [], Nat.zero_le _, rfl, ownS_nil _ _, Below.refl _ _, TxK.zero _ _ _⟩
  case round =>
    obtain ⟨k, ds, hk, rfl, hown, hbw, htk⟩ := hrel
    have HO := hid hown
    have HBW := hid hbw
    have HTK := hid htk
    clear hown hbw htk
    by_cases hlt : k < ads.length
    · have d1 : decide ((k : Int) < (ads.length : Int)) = true := by simp; omega
      have d1n : decide (k < ads.length) = true := by simp; omega
      obtain ⟨ab, ao, rfl, hcell⟩ := (HAS.out.below' HBW.out).some_of (by simp [u64s]; omega)
      have hg : wr.cell? ⟨ab, ao + k, none⟩ = some (.int .u64 (ads[k] : Int)) := by
        have := hcell k (by simp [u64s]; omega)
        rw [this]; simp [u64s]
      have hx64 := H64.out ads[k] (List.getElem_mem hlt)
      have HBAD := hid (fun he => HTK.out.bad hlt he)
      have HSUC := hid (fun he => HTK.out.succ hlt he)
      obtain ⟨x, hxx⟩ : ∃ x, x = ads[k] := ⟨_, rfl⟩
      rw [← hxx] at hg hx64 HBAD HSUC
      clear hcell hxx
      have HR := hid (HD.out.still HBW.out)
      obtain ⟨r0, r1, r2⟩ := HR.out.row.rd
      have hlr := HR.out.row.lt
      have hlen := HR.out.byt.hlen
      have HLN := hid hlen
      have hsm := HR.out.small
      by_cases hlow : x < sp
      · have HE := hid (show (textsR l sp ads).1 = ((25 : Nat) : Int) by rw [HBAD.out (by rw [textR_out (.inl hlow)]; decide), textR_out (.inl hlow)]; rfl)
        have d2 : decide ((x : Int) < (sp : Int)) = true := by simp; omega
        have d2n : decide (x < sp) = true := by simp; omega
        clear hlow hx64 hsm hlen
        go_wp2_with fail
        go_quiet (fail)
        go_wp2_with fail
        go_ret2
        exact txP_no HE.out (by decide) (bdN HBW.out _)
      · have d2 : decide ((x : Int) < (sp : Int)) = false := by simp; omega
        have d2n : decide (x < sp) = false := by simp; omega
        have ew1 : IntKind.u64.wrap ((x : Int) - (sp : Int)) = ((x - sp : Nat) : Int) := by rw [IntWalk.u64_in _ (by omega)]; omega
        have ew2 : IntKind.u64.wrap (len : Int) = (len : Int) := IntWalk.u64_in _ (by omega)
        by_cases hout : len ≤ x - sp
        · have HE := hid (show (textsR l sp ads).1 = ((25 : Nat) : Int) by rw [HBAD.out (by rw [textR_out (.inr (by omega))]; decide), textR_out (.inr (by omega))]; rfl)
          have d3 : decide ((len : Int) ≤ ((x - sp : Nat) : Int)) = true := by simp; omega
          have d3n : decide (len ≤ x - sp) = true := by simp; omega
          clear hlow hx64 hsm hlen hout
          generalize x - sp = f at *
          go_wp2_with fail
          go_quiet (fail)
          go_wp2_with fail
          go_ret2
          exact txP_no HE.out (by decide) (bdN HBW.out _)
        · have d3 : decide ((len : Int) ≤ ((x - sp : Nat) : Int)) = false := by simp; omega
          have d3n : decide (len ≤ x - sp) = false := by simp; omega
          have HNO := hid (show ¬ (x < sp ∨ l.length ≤ x - sp) by omega)
          obtain ⟨b, off, rfl, _⟩ := HR.out.byt.some_of (by omega)
          obtain ⟨f, hf⟩ : ∃ f, f = x - sp := ⟨_, rfl⟩
          rw [← hf] at d3 d3n ew1
          have HFX := hid hf
          have hfl : f < len := by omega
          have HFL := hid hfl
          have hs1 := slFrom .u64 b off len cap f (f : Int) rfl (by omega) HCC.out (by have := HCC.out; omega)
          have HBY := hid (HR.out.byt.from (f := f) (by omega))
          have HSZ := hid (show len - f = (ba (l.drop f)).size by rw [ba_size, List.length_drop]; omega)
          have HIB := hid (fun (w' : World) (hb : Below wr.heap.size wr w') => Tryd.bytes_IndexByte_bytes b (off + f) (cap - f) (ba (l.drop f)) 0 w' (((HBY.out.below' HD.out.low).below' (HBW.out)).below' hb).lib)
          have HBF := hid (fun (w' : World) (hb : Below wr.heap.size wr w') => ((HBY.out.below' HD.out.low).below' (HBW.out)).below' hb)
          rw [← HSZ.out] at HIB
          have H0 : (0 : Int).toNat.toUInt8 = 0 := rfl
          rw [H0] at HIB
          rw [show (ba (l.drop f)).data.toList = l.drop f from rfl] at HIB
          have HIX := hid (idx0 (l.drop f))
          have HTN := hid (show (l.drop f).findIdx? (· == 0) = none → (textR l sp x).1 = 25 from fun hfi => textR_none HNO.out (by rw [← hf]; exact hfi))
          have HTL := hid (show ∀ i : Nat, (l.drop f).findIdx? (· == 0) = some i → 256 < i → (textR l sp x).1 = 12 from fun i hfi hi => textR_long (i := i) HNO.out (by rw [← hf]; exact hfi) hi)
          have HTY := hid (show ∀ i : Nat, (l.drop f).findIdx? (· == 0) = some i → ¬ 256 < i → textR l sp x = (0, (l.drop f).take i) from fun i hfi hi => by have := textR_yes (i := i) HNO.out (by rw [← hf]; exact hfi) hi; rwa [← hf] at this)
          clear hlow hx64 hsm hlen hout hf hfl H0
          generalize l.drop f = m at *
          go_wp2_with fail
          go_quiet (fail)
          go_wp2_with fail
          go_quiet (fail)
          go_wp2_with fail
          refine (HIB.out _ (bdN (Below.refl _ _) _)).mono ?_
          rintro e' w3 ⟨rfl, hw3⟩
          have HB3 := hid (show Below wr.heap.size wr w3 by rw [hw3]; exact bdN (Below.refl _ _) _)
          have HBW3 := hid (bthen HBW.out HB3.out)
          clear hw3
          rcases HIX.out with ⟨i1, i2⟩ | ⟨i, i1, i2, hi⟩
          · have HE := hid (show (textsR l sp ads).1 = ((25 : Nat) : Int) by rw [HBAD.out (by rw [HTN.out i2]; decide), HTN.out i2]; rfl)
            rw [i1]
            clear i1 i2
            go_wp2_with fail
            go_ret2
            exact txP_no HE.out (by decide) HBW3.out
          · rw [i1]
            have HII := hid i2
            clear i1 i2
            by_cases hbig : 256 < i
            · have HE := hid (show (textsR l sp ads).1 = ((12 : Nat) : Int) by rw [HBAD.out (by rw [HTL.out i HII.out hbig]; decide), HTL.out i HII.out hbig]; rfl)
              have d4 : decide (256 < (i : Int)) = true := by simp; omega
              have d4n : decide (256 < i) = true := by simp; omega
              have d5 : ¬ (i : Int) < 0 := by omega
              clear hbig hi
              go_wp2_with fail
              go_ret2
              exact txP_no HE.out (by decide) HBW3.out
            · have HE := hid (HTY.out i HII.out hbig)
              have d4 : decide (256 < (i : Int)) = false := by simp; omega
              have d4n : decide (256 < i) = false := by simp; omega
              have d5 : ¬ (i : Int) < 0 := by omega
              have HSU := hid (HSUC.out (by rw [HE.out]))
              rw [HE.out] at HSU
              have HML := hid (HBF.out w3 HB3.out).hlen
              have hs2 := slTo .i64 (some ⟨b, off + f, none⟩) (len - f) (cap - f) i (i : Int) rfl (by have := HCC.out; have := HML.out; omega) w3
              have hb3 := (HBF.out w3 HB3.out).upto (n := i) (by have := HML.out; omega)
              have hcv := hb3.str (P := Tryd.prog) 29 9 5 (cap - f) Tryd.underlying29 Tryd.underlying5 Tryd.underlying9
              have hcv2 : (convert 29 9 (.slice (some ⟨b, off + f, none⟩) i (cap - f))).run Tryd.prog w3 = .ok (.string (ba (m.take i))) w3 := hcv
              clear hcv hb3
              have HO3 := hid (fun o => own_below (own_below HO.out HB3.out) (@bal w3 o))
              have HC := hid (cel_one w3 9 (.string (ba (m.take i))))
              have HDL := hid (show ds.length = k from HTK.out.len)
              have HNa := hid (show (ds.length + 1) * 16 ≤ 140737488355328 by have := HDL.out; omega)
              have HNb := hid (show ds.length + 1 ≤ maxLen by have := HDL.out; unfold maxLen; omega)
              have HZ := hid (show w.heap.size ≤ w3.heap.size + 1 by have := HBW3.out.size; omega)
              generalize m.take i = tx at *
              clear hbig hi
              go_wp2_with (at_builtin; go_must (refine wpList_ap1 Tryd.underlying22 infoS rfl rfl _ _ rfl w.heap.size _ ds.length (strs ds) [.string (ba tx)] rfl (some ⟨w3.heap.size, 0, none⟩) 1 1 rfl (HO3.out _) HC.out (strs_one _) (fun h => by cases h) HNa.out HNb.out (by rw [World.size_alloc]; exact HZ.out) ?_; intro v' w9 hown hgrow hb9; have HO9 := hid hown; have HG9 := hid hgrow; have HB9 := hid hb9; clear hown hgrow hb9))
              go_roundw
              case rel => exact ⟨k + 1, ds ++ [tx], by omega, by go_num, ownS_snoc HO9.out rfl, (HBW3.out.alloc HBW3.out.size _).trans HB9.out, HSU.out⟩
              case measure => simp [intOf]; omega
    · have d1 : decide ((k : Int) < (ads.length : Int)) = false := by simp; omega
      have d1n : decide (k < ads.length) = false := by simp; omega
      have HE := hid (HTK.out.fin (by omega))
      go_wp2_with fail
      go_ret2
      exact txP_yes HE.out HO.out HBW.out
end Go.Proofs.YtihaakcfegelkaaDoor
