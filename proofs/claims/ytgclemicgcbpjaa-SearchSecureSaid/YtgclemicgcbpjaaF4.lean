/- vfs: the way along the parts. -/
import Derived.Test.YtgclemicgcbpjaaF3
namespace Go.Proofs.Ytgclemicgcbpjaa
open Go.RowKit Go.Sort

def followL (L : List ND) (c : CR) (last : Bool) (links at_ : Nat) : List BL → Int × Nat
  | [] => (0, at_)
  | p :: rest =>
    if (stepL L c at_ p).1 = 0 then
      if (L.getD (stepL L c at_ p).2 default).kind ≠ 3 ∨ (rest = [] ∧ last = false) then followL L c last links (stepL L c at_ p).2 rest
      else if h : 8 ≤ links then (10, 0)
      else followL L c last (links + 1) (if rootF (L.getD (stepL L c at_ p).2 default).to = true then 0 else at_) (partsF (L.getD (stepL L c at_ p).2 default).to ++ rest)
    else ((stepL L c at_ p).1, 0)
termination_by left => (9 - links, left.length)
decreasing_by
  all_goals simp_wf
  · right; omega
  · left; omega

section
variable {L : List ND} {c : CR} {last : Bool} {links at_ nx : Nat} {p : BL} {rest : List BL}
theorem followL_nil : followL L c last links at_ [] = (0, at_) := by rw [followL]
theorem followL_bad (h : ¬ (stepL L c at_ p).1 = 0) : followL L c last links at_ (p :: rest) = ((stepL L c at_ p).1, 0) := by rw [followL, if_neg h]
theorem followL_step (h : stepL L c at_ p = (0, nx)) (h2 : (L.getD nx default).kind ≠ 3 ∨ (rest = [] ∧ last = false)) : followL L c last links at_ (p :: rest) = followL L c last links nx rest := by
  rw [followL, h, if_pos rfl, if_pos h2]
theorem followL_loop (h : stepL L c at_ p = (0, nx)) (hk : (L.getD nx default).kind = 3) (h2 : ¬ (rest = [] ∧ last = false)) (h8 : 8 ≤ links) : followL L c last links at_ (p :: rest) = (10, 0) := by
  rw [followL, h, if_pos rfl, if_neg (fun h => h.elim (fun h => h hk) h2), dif_pos h8]
theorem followL_link (h : stepL L c at_ p = (0, nx)) (hk : (L.getD nx default).kind = 3) (h2 : ¬ (rest = [] ∧ last = false)) (h8 : ¬ 8 ≤ links) : followL L c last links at_ (p :: rest) = followL L c last (links + 1) (if rootF (L.getD nx default).to = true then 0 else at_) (partsF (L.getD nx default).to ++ rest) := by
  rw [followL, h, if_pos rfl, if_neg (fun h => h.elim (fun h => h hk) h2), dif_neg h8]
end
theorem step_in {L : List ND} {c : CR} {i nx : Nat} {p : BL} (hf : Fine L) (hi : i < L.length) (h : stepL L c i p = (0, nx)) : nx < L.length := by
  unfold stepL stepN at h
  split at h
  · cases h
  · split at h
    · cases h
    · split at h
      · cases h; exact (hf.up i hi).1
      · split at h
        · rename_i j hj
          cases h
          exact hf.names i hi _ (lookI_mem hj)
        · cases h

theorem strs_one1 (ds : List BL) : ∀ u ∈ strs ds, u.oneCell' = true := by
  intro u hu
  unfold strs at hu
  obtain ⟨x, _, rfl⟩ := List.mem_map.1 hu
  rfl
theorem strs_app (a b : List BL) : strs (a ++ b) = strs a ++ strs b := by simp [strs]
theorem cuts_len (l : BL) : (cuts 47 l).length ≤ l.length + 1 := by
  have := cst_len 47 l
  unfold cuts
  simp only [List.length_append, List.length_singleton]
  omega
theorem parts_count (l : BL) : (partsF l).length ≤ 201 := by
  unfold partsF
  split
  · rename_i h
    have h1 : l.length ≤ 200 := by
      unfold chkE at h
      split at h
      · cases h
      · split at h
        · cases h
        · split at h
          · cases h
          · omega
    have h2 := cuts_len l
    have h3 := List.length_filter_le goodP (cuts 47 l)
    unfold partsL
    omega
  · simp
theorem parts_small (l : BL) : ∀ p ∈ partsF l, p.length ≤ 1000 := by
  unfold partsF
  split
  · rename_i h
    intro p hp
    have h1 : tooLong l = false := by
      unfold chkE at h
      split at h
      · cases h
      · split at h
        · cases h
        · split at h
          · cases h
          · split at h
            · cases h
            · rename_i h5; simpa using h5
    unfold tooLong at h1
    rw [List.any_eq_false] at h1
    have := h1 p (List.mem_filter.1 hp).1
    simp at this
    omega
  · simp
theorem app_small {a b : List BL} {n : Nat} (ha : ∀ p ∈ a, p.length ≤ n) (hb : ∀ p ∈ b, p.length ≤ n) : ∀ p ∈ a ++ b, p.length ≤ n := by
  intro p hp
  rcases List.mem_append.1 hp with h | h
  · exact ha p h
  · exact hb p h

/-- x[1:]. -/
theorem tail_slice (b o c n : Nat) (hn : n + 1 ≤ c) : ∃ aR : Addr, (∀ w, (Instr.slice 59 (.slice (some ⟨b, o, none⟩) (n + 1) c) (some (.int .i64 1)) none none).run Try.prog w = .ok (.slice (some aR) n (c - 1)) w) ∧ ∀ (w : World) (x : Value) (cs : List Value), Cel w (some ⟨b, o, none⟩) (n + 1) (x :: cs) → Cel w (some aR) n cs := by
  have hz : ∀ w, (sizeOf (Try.prog.elem 59)).run Try.prog w = .ok 1 w := fun w => by kernel_rfl
  refine ⟨if c = 1 then ⟨b, o, none⟩ else ⟨b, o + 1, none⟩, fun w => ?_, fun w x cs h => ?_⟩
  · rw [run_slice_l w 59 _ _ _ (by kernel_rfl) .i64 1 (by omega) (by omega), hz]
    simp only [Result.andThen, sliced]
    by_cases h1 : c = 1
    · subst h1; simp
    · have : ¬ c = (1 : Int).toNat := h1
      rw [if_neg this, if_neg h1]
      simp [Addr.add]
  · have hl : cs.length = n := by have := h.hlen; simpa using this
    refine ⟨hl, fun i hi => ?_⟩
    rw [if_neg (by omega)]
    obtain ⟨b', o', e, hc⟩ := h.cell (i + 1) (by simp; omega)
    cases e
    refine ⟨b, o + 1, rfl, ?_⟩
    rw [show o + 1 + i = o + (i + 1) by omega, hc]
    simp

theorem _root_.Go.RowKit.Below.below_of_own {W2 w3 w4 : World} {e size n : Nat} {v : Value} {xs : List Value} (_ : Below w3.heap.size w3 w3) (hg : w3.grownBy w4 v.ownBlock) (ho : w3.ownsRow W2.heap.size e size v n xs) (hz : W2.heap.size ≤ w3.heap.size) (hb : Below W2.heap.size W2 w3) : Below W2.heap.size W2 w4 :=
  hb.grown hg hz (fun k hk => own_low ho (Nat.le_refl _) k hk)
def lenS : Value → Nat
  | .slice _ n _ => n
  | _ => 0

set_option maxRecDepth 100000 in
set_option maxHeartbeats 8000000 in
theorem follow_any (F : Nat) (t : FT) (c : CR) (i : Nat) (left0 : List BL) (aL0 : Option Addr) (cL0 : Nat) (last : Bool) (w : World) (h : FSat w F t) (hi : i < t.L.length) (hc : CrOk w c) (hC : Cel w aL0 left0.length (strs left0)) (hcap : left0.length ≤ cL0) (hlen : left0.length ≤ 201) (hsm : ∀ p ∈ left0, p.length ≤ 1000) :
    Calls Try.prog 37 #[.pointer (some ⟨F, 0, none⟩), c.v, ndV (t.pt i), .slice aL0 left0.length cL0, .bool last] w fun e w' => e = .returned (resV t (followL t.L c last 0 i left0)) ∧ Below w.heap.size w w' := by
  have hb0 : Below w.heap.size w (w.alloc (.cells #[.int .u32 c.u, .int .u32 c.e, .int .u32 c.s, .int .u32 c.g, .slice c.a c.n c.c] 25)) := bal _
  have HX := hid (Row.new w 25 [.int .u32 c.u, .int .u32 c.e, .int .u32 c.s, .int .u32 c.g, .slice c.a c.n c.c])
  have HW0 := hid hb0
  have HFS := hid (h.below hb0)
  have HCR0 := hid (hc.below hb0)
  have HC0 := hid (hC.below' hb0)
  have HSM := hid hsm
  clear hb0 h hc hC hsm
  generalize hR : followL t.L c last 0 i left0 = R
  unfold CR.v
  go_enter Try.func37, Try.ntmps37
  go_wp2_with fail
  obtain ⟨W0, hW0⟩ : ∃ W0, W0 = w.alloc (.cells #[.int .u32 c.u, .int .u32 c.e, .int .u32 c.s, .int .u32 c.g, .slice c.a c.n c.c] 25) := ⟨_, rfl⟩
  rw [show w.alloc (.cells [.int .u32 c.u, .int .u32 c.e, .int .u32 c.s, .int .u32 c.g, .slice c.a c.n c.c].toArray 25) = W0 from hW0.symm] at HX
  rw [← hW0] at HW0 HFS HCR0 HC0 ⊢
  clear hW0
  go_loopw [2, 3, 12] (fun s2 s3 s12 wr => ∃ (links at_ : Nat) (left : List BL) (aL : Option Addr) (cL : Nat), at_ < t.L.length ∧ links ≤ 8 ∧ s2 = ndV (t.pt at_) ∧ s3 = .slice aL left.length cL ∧ s12 = .int .i64 links ∧ Cel wr aL left.length (strs left) ∧ left.length ≤ cL ∧ left.length ≤ 201 * (links + 1) ∧ (∀ p ∈ left, p.length ≤ 1000) ∧ Below W0.heap.size W0 wr ∧ followL t.L c last links at_ left = R) (fun _ s3 s12 _ => (9 - (intOf s12).toNat) * 100000 + lenS s3)
  case atStart => exact ⟨0, i, left0, aL0, cL0, hi, by omega, rfl, rfl, rfl, HC0.out, hcap, by omega, HSM.out, Below.refl _ _, hR⟩
  case round =>
    clear hR hcap hlen hi
    obtain ⟨links, at_, left, aL, cL, hat, hlk, hs2, rfl, rfl, hC, hcap, hlen, hsm, hb, hfl⟩ := hrel
    have HAT := hid hat
    have HB := hid hb
    have HWW := hid (bthen HW0.out hb)
    have HFL := hid hfl
    clear hfl
    cases left with
    | nil =>
      have HR2 := hid (HFL.out.symm.trans followL_nil)
      subst hs2
      clear hb hC hsm hcap hlen hlk
      go_wp2_with fail
      go_ret2
      exact ⟨by rw [HR2.out]; unfold resV; rw [if_pos rfl]; rfl, HWW.out⟩
    | cons p rest =>
      obtain ⟨b, o, rfl, hcell⟩ := hC.some_of (by simp [strs])
      have hc0 : wr.cell? ⟨b, o + 0, none⟩ = some (.string (ba p)) := hcell 0 (by simp [strs])
      rw [Nat.add_zero] at hc0
      obtain ⟨aR, hsl, hcr⟩ := tail_slice b o cL rest.length (by simpa using hcap)
      have HCC := hid (fun (wz : World) (hz : Below wr.heap.size wr wz) => hcr wz _ _ (hC.below' hz))
      have HSM2 := hid (fun p' (hp : p' ∈ rest) => hsm p' (List.mem_cons_of_mem _ hp))
      have hpl := hsm p (List.mem_cons_self ..)
      have hbox := HX.out.below hb HX.out.lt
      have HSTEP := hid (fun (wz : World) (hz : Below wr.heap.size wr wz) => step_any F t c at_ p wz (HFS.out.below (bthen hb hz)) hat (HCR0.out.below (bthen hb hz)) (by omega))
      have HBXX := hid hb
      simp only [List.length_cons] at hcap hlen
      clear hC hcr hsm hb
      subst hs2
      obtain ⟨q0, q1, q2, q3, q4⟩ := five_rg hbox.five
      have hq0 := rg_cell hc0
      have hbl : ∀ d os, b < (rg wr d os).heap.size := fun d os => World.block_lt_of_cell? _ _ (hq0 d os)
      clear hbox hcell hc0
      simp only [List.length_cons]
      cases hst : stepL t.L c at_ p with
      | mk er nx =>
        by_cases her : er = 0
        · subst her
          have HST := hid hst
          have HNX := hid (step_in HFS.out.fine hat hst)
          have cc := hid (fun (d : Nat) (os : Array Obj) => rg_call (HSTEP.out (rg wr d os) (rg_below _ _ _)))
          rw [hst] at cc
          simp only [resV, if_true] at cc
          have HKV := hid (ndV_kind (t.nd nx).kind (t.bk nx))
          rw [show ndV (ndT (t.nd nx).kind, t.bk nx) = ndV (t.pt nx) from rfl] at HKV
          unfold CR.v at cc
          clear hst HSTEP
          go_wp2_with fail
          refine region_rg (by kernel_rfl) (by kernel_rfl) ?_
          repeat (quiet_step (with_reducible exact cc.out _ _))
          refine wpQuiet_nil ?_
          intro _ hw'
          obtain ⟨⟨dq, osq⟩, hw''⟩ := hw'
          subst hw''
          have HBX := hid (HBXX.out.trans ((rg_below wr dq osq).mono HBXX.out.size))
          have HWW2 := hid (bthen HWW.out (rg_below wr dq osq))
          have HCR := hid (HCC.out _ (rg_below wr dq osq))
          have HFS2 := hid (HFS.out.below HBX.out)
          clear q0 q1 q2 q3 q4 hq0 hbl cc HCC
          generalize rg wr dq osq = W2 at *
          rw [HKV.out]
          by_cases hk3 : (t.nd nx).kind = 3
          · have hk2 : ¬ (t.nd nx).kind = 2 := by omega
            rw [if_neg hk2, if_pos hk3] at HKV ⊢
            have HKN := hid hk3
            have hta := ta_ll (t.bk nx)
            clear hk2 hk3
            by_cases hre : rest = []
            · have hq : ((rest.length : Int) == 0) = true := by rw [hre]; rfl
              cases last
              · have HLA := hid (show (t.nd nx).kind ≠ 3 ∨ (rest = [] ∧ false = false) from .inr ⟨hre, rfl⟩)
                clear hre
                have HR2 := hid (HFL.out.symm.trans (followL_step HST.out HLA.out))
                go_wp2_with fail
                go_roundw
                case rel => exact ⟨links, nx, rest, some aR, cL - 1, HNX.out, by omega, HKV.out.symm, rfl, rfl, HCR.out, by omega, by omega, HSM2.out, HBX.out, HR2.out.symm⟩
                case measure => simp only [intOf, lenS]; omega
              · have HLA := hid (show ¬ (rest = [] ∧ true = false) by simp)
                clear hre
                by_cases h8 : 8 ≤ links
                · have HR2 := hid (HFL.out.symm.trans (followL_loop HST.out HKN.out HLA.out h8))
                  have d8 : decide ((8 : Int) < (links : Int) + 1) = true := by simp; omega
                  clear h8
                  go_wp2_with fail
                  go_ret2
                  exact ⟨by rw [HR2.out]; rfl, HWW2.out⟩
                · have HR2 := hid (HFL.out.symm.trans (followL_link HST.out HKN.out HLA.out h8))
                  have d8 : decide ((8 : Int) < (links : Int) + 1) = false := by simp; omega
                  have h8' : links < 8 := by omega
                  have hdl := (HFS2.out.node _ HNX.out).link HKN.out
                  obtain ⟨_, _, _, _, k8⟩ := hd_cells hdl
                  have hkl := hdl.lt
                  have HTO := hid (HFS2.out.fine.to _ HNX.out)
                  clear h8 hdl
                  go_wp2_with fail
                  refine (parts_any (ba (t.nd nx).to) W2 (by rw [ba_size]; have h200 : (t.nd nx).to.length ≤ 200 := HTO.out; omega)).mono ?_
                  rintro e' w3 ⟨v3, rfl, ho3, hb3⟩
                  rw [show (ba (t.nd nx).to).data.toList = (t.nd nx).to from rfl] at ho3 ⊢
                  have HO3 := hid ho3
                  have HB3 := hid hb3
                  have HZ3 := hid hb3.size
                  have HC3 := hid (HCR.out.below' hb3)
                  have HP1 := hid (parts_count (t.nd nx).to)
                  have HP2 := hid (parts_small (t.nd nx).to)
                  have HF3 := hid (HFS2.out.below hb3)
                  have HWW3 := hid (HWW2.out.trans (hb3.mono HWW2.out.size))
                  obtain ⟨ia, hia, hza0, hza1, hza2⟩ := info_parts infoStr
                  have hp1 := HP1.out
                  have HM1 := hid (show (partsF (t.nd nx).to).length + rest.length ≤ maxLen by unfold maxLen; omega)
                  have HM2 := hid (show ((partsF (t.nd nx).to).length + rest.length) * 16 ≤ 140737488355328 by omega)
                  have HRL := hid (show (strs rest).length = rest.length * 1 by simp [strs])
                  have HR1 := hid (strs_one1 rest)
                  clear ho3 hb3 k8 hkl
                  cases hrt : rootF (t.nd nx).to
                  · have hrt' : ¬ rootF (t.L.getD nx default).to = true := by intro e; have e2 : rootF (t.nd nx).to = true := e; rw [hrt] at e2; cases e2
                    rw [if_neg hrt'] at HR2
                    clear hrt hrt'
                    go_wp2_with (at_builtin; go_must (refine wpList_append_own _ rfl _ _ 59 rfl W2.heap.size 9 ia (.string ByteArray.empty) 1 16 Try.underlying59 hia hza0 hza1 hza2 rfl (by decide) v3 (partsF (t.nd nx).to).length (strs (partsF (t.nd nx).to)) rfl HO3.out aR rest.length (cL - 1) (strs rest) rfl HRL.out (HC3.out.news) HR1.out HM1.out HM2.out HZ3.out ?_; intro v4 w4 hown hgrow _; have HO4 := hid hown; have HB4 := hid ((Below.refl w3.heap.size w3).below_of_own hgrow HO3.out HZ3.out HB3.out); clear hown hgrow))
                    obtain ⟨a4, c4, rfl, hc4, _, hcc4, _⟩ := own_cel HO4.out
                    rw [← strs_app] at hc4
                    have HC4 := hid hc4
                    have HCC4 := hid hcc4
                    have HB24 := hid (HBX.out.trans (HB4.out.mono HBX.out.size))
                    clear hc4 hcc4
                    go_roundw
                    case rel => exact ⟨links + 1, at_, partsF (t.nd nx).to ++ rest, a4, c4, HAT.out, by omega, rfl, by rw [List.length_append], by go_num, by rw [List.length_append]; exact HC4.out, by rw [List.length_append]; exact HCC4.out, by rw [List.length_append]; omega, app_small HP2.out HSM2.out, HB24.out, HR2.out.symm⟩
                    case measure => simp only [intOf, lenS]; omega
                  · have hrt' : rootF (t.L.getD nx default).to = true := hrt
                    rw [if_pos hrt'] at HR2
                    clear hrt hrt'
                    obtain ⟨a9, c9, z0, z1, hFz, _⟩ := HFS2.out.at
                    have HZ0 := hid z0
                    have HK0 := hid (show ndV (t.pt 0) = .iface 81 (.pointer (some ⟨t.bk 0, 0, none⟩)) by
                      have hk0 : (t.nd 0).kind = 2 := HFS2.out.fine.root
                      rw [show ndV (t.pt 0) = ndV (ndT (t.nd 0).kind, t.bk 0) from rfl, ndV_kind, if_pos hk0])
                    have HPOS := hid HFS2.out.fine.pos
                    clear z0 z1 hFz
                    go_wp2_with (at_builtin; go_must (refine wpList_append_own _ rfl _ _ 59 rfl W2.heap.size 9 ia (.string ByteArray.empty) 1 16 Try.underlying59 hia hza0 hza1 hza2 rfl (by decide) v3 (partsF (t.nd nx).to).length (strs (partsF (t.nd nx).to)) rfl HO3.out aR rest.length (cL - 1) (strs rest) rfl HRL.out (HC3.out.news) HR1.out HM1.out HM2.out HZ3.out ?_; intro v4 w4 hown hgrow _; have HO4 := hid hown; have HB4 := hid ((Below.refl w3.heap.size w3).below_of_own hgrow HO3.out HZ3.out HB3.out); have hz0 := keepC HB4.out HZ0.out; clear hown hgrow))
                    obtain ⟨a4, c4, rfl, hc4, _, hcc4, _⟩ := own_cel HO4.out
                    rw [← strs_app] at hc4
                    have HC4 := hid hc4
                    have HCC4 := hid hcc4
                    have HB24 := hid (HBX.out.trans (HB4.out.mono HBX.out.size))
                    clear hc4 hcc4
                    go_roundw
                    case rel => exact ⟨links + 1, 0, partsF (t.nd nx).to ++ rest, a4, c4, HPOS.out, by omega, HK0.out.symm, by rw [List.length_append], by go_num, by rw [List.length_append]; exact HC4.out, by rw [List.length_append]; exact HCC4.out, by rw [List.length_append]; omega, app_small HP2.out HSM2.out, HB24.out, HR2.out.symm⟩
                    case measure => simp only [intOf, lenS]; omega
            · have hq : ((rest.length : Int) == 0) = false := by
                rw [beq_eq_false_iff_ne]
                intro e
                exact hre (List.length_eq_zero_iff.1 (by omega))
              have HLA := hid (show ¬ (rest = [] ∧ last = false) from fun h => hre h.1)
              clear hre
              by_cases h8 : 8 ≤ links
              · have HR2 := hid (HFL.out.symm.trans (followL_loop HST.out HKN.out HLA.out h8))
                have d8 : decide ((8 : Int) < (links : Int) + 1) = true := by simp; omega
                clear h8
                go_wp2_with fail
                go_ret2
                exact ⟨by rw [HR2.out]; rfl, HWW2.out⟩
              · have HR2 := hid (HFL.out.symm.trans (followL_link HST.out HKN.out HLA.out h8))
                have d8 : decide ((8 : Int) < (links : Int) + 1) = false := by simp; omega
                have h8' : links < 8 := by omega
                have hdl := (HFS2.out.node _ HNX.out).link HKN.out
                obtain ⟨_, _, _, _, k8⟩ := hd_cells hdl
                have hkl := hdl.lt
                have HTO := hid (HFS2.out.fine.to _ HNX.out)
                clear h8 hdl
                go_wp2_with fail
                refine (parts_any (ba (t.nd nx).to) W2 (by rw [ba_size]; have h200 : (t.nd nx).to.length ≤ 200 := HTO.out; omega)).mono ?_
                rintro e' w3 ⟨v3, rfl, ho3, hb3⟩
                rw [show (ba (t.nd nx).to).data.toList = (t.nd nx).to from rfl] at ho3 ⊢
                have HO3 := hid ho3
                have HB3 := hid hb3
                have HZ3 := hid hb3.size
                have HC3 := hid (HCR.out.below' hb3)
                have HP1 := hid (parts_count (t.nd nx).to)
                have HP2 := hid (parts_small (t.nd nx).to)
                have HF3 := hid (HFS2.out.below hb3)
                have HWW3 := hid (HWW2.out.trans (hb3.mono HWW2.out.size))
                obtain ⟨ia, hia, hza0, hza1, hza2⟩ := info_parts infoStr
                have hp1 := HP1.out
                have HM1 := hid (show (partsF (t.nd nx).to).length + rest.length ≤ maxLen by unfold maxLen; omega)
                have HM2 := hid (show ((partsF (t.nd nx).to).length + rest.length) * 16 ≤ 140737488355328 by omega)
                have HRL := hid (show (strs rest).length = rest.length * 1 by simp [strs])
                have HR1 := hid (strs_one1 rest)
                clear ho3 hb3 k8 hkl
                cases hrt : rootF (t.nd nx).to
                · have hrt' : ¬ rootF (t.L.getD nx default).to = true := by intro e; have e2 : rootF (t.nd nx).to = true := e; rw [hrt] at e2; cases e2
                  rw [if_neg hrt'] at HR2
                  clear hrt hrt'
                  go_wp2_with (at_builtin; go_must (refine wpList_append_own _ rfl _ _ 59 rfl W2.heap.size 9 ia (.string ByteArray.empty) 1 16 Try.underlying59 hia hza0 hza1 hza2 rfl (by decide) v3 (partsF (t.nd nx).to).length (strs (partsF (t.nd nx).to)) rfl HO3.out aR rest.length (cL - 1) (strs rest) rfl HRL.out (HC3.out.news) HR1.out HM1.out HM2.out HZ3.out ?_; intro v4 w4 hown hgrow _; have HO4 := hid hown; have HB4 := hid ((Below.refl w3.heap.size w3).below_of_own hgrow HO3.out HZ3.out HB3.out); clear hown hgrow))
                  obtain ⟨a4, c4, rfl, hc4, _, hcc4, _⟩ := own_cel HO4.out
                  rw [← strs_app] at hc4
                  have HC4 := hid hc4
                  have HCC4 := hid hcc4
                  have HB24 := hid (HBX.out.trans (HB4.out.mono HBX.out.size))
                  clear hc4 hcc4
                  go_roundw
                  case rel => exact ⟨links + 1, at_, partsF (t.nd nx).to ++ rest, a4, c4, HAT.out, by omega, rfl, by rw [List.length_append], by go_num, by rw [List.length_append]; exact HC4.out, by rw [List.length_append]; exact HCC4.out, by rw [List.length_append]; omega, app_small HP2.out HSM2.out, HB24.out, HR2.out.symm⟩
                  case measure => simp only [intOf, lenS]; omega
                · have hrt' : rootF (t.L.getD nx default).to = true := hrt
                  rw [if_pos hrt'] at HR2
                  clear hrt hrt'
                  obtain ⟨a9, c9, z0, z1, hFz, _⟩ := HFS2.out.at
                  have HZ0 := hid z0
                  have HK0 := hid (show ndV (t.pt 0) = .iface 81 (.pointer (some ⟨t.bk 0, 0, none⟩)) by
                    have hk0 : (t.nd 0).kind = 2 := HFS2.out.fine.root
                    rw [show ndV (t.pt 0) = ndV (ndT (t.nd 0).kind, t.bk 0) from rfl, ndV_kind, if_pos hk0])
                  have HPOS := hid HFS2.out.fine.pos
                  clear z0 z1 hFz
                  go_wp2_with (at_builtin; go_must (refine wpList_append_own _ rfl _ _ 59 rfl W2.heap.size 9 ia (.string ByteArray.empty) 1 16 Try.underlying59 hia hza0 hza1 hza2 rfl (by decide) v3 (partsF (t.nd nx).to).length (strs (partsF (t.nd nx).to)) rfl HO3.out aR rest.length (cL - 1) (strs rest) rfl HRL.out (HC3.out.news) HR1.out HM1.out HM2.out HZ3.out ?_; intro v4 w4 hown hgrow _; have HO4 := hid hown; have HB4 := hid ((Below.refl w3.heap.size w3).below_of_own hgrow HO3.out HZ3.out HB3.out); have hz0 := keepC HB4.out HZ0.out; clear hown hgrow))
                  obtain ⟨a4, c4, rfl, hc4, _, hcc4, _⟩ := own_cel HO4.out
                  rw [← strs_app] at hc4
                  have HC4 := hid hc4
                  have HCC4 := hid hcc4
                  have HB24 := hid (HBX.out.trans (HB4.out.mono HBX.out.size))
                  clear hc4 hcc4
                  go_roundw
                  case rel => exact ⟨links + 1, 0, partsF (t.nd nx).to ++ rest, a4, c4, HPOS.out, by omega, HK0.out.symm, by rw [List.length_append], by go_num, by rw [List.length_append]; exact HC4.out, by rw [List.length_append]; exact HCC4.out, by rw [List.length_append]; omega, app_small HP2.out HSM2.out, HB24.out, HR2.out.symm⟩
                  case measure => simp only [intOf, lenS]; omega
          · have HLA := hid (show (t.nd nx).kind ≠ 3 ∨ (rest = [] ∧ last = false) from .inl hk3)
            by_cases hk2 : (t.nd nx).kind = 2
            · rw [if_pos hk2] at HKV ⊢
              have hta := ta_ld (t.bk nx)
              clear hk2 hk3
              have HR2 := hid (HFL.out.symm.trans (followL_step HST.out HLA.out))
              go_wp2_with fail
              go_roundw
              case rel => exact ⟨links, nx, rest, some aR, cL - 1, HNX.out, by omega, HKV.out.symm, rfl, rfl, HCR.out, by omega, by omega, HSM2.out, HBX.out, HR2.out.symm⟩
              case measure => simp only [intOf, lenS]; omega
            · rw [if_neg hk2, if_neg hk3] at HKV ⊢
              have hta := ta_lf (t.bk nx)
              clear hk2 hk3
              have HR2 := hid (HFL.out.symm.trans (followL_step HST.out HLA.out))
              go_wp2_with fail
              go_roundw
              case rel => exact ⟨links, nx, rest, some aR, cL - 1, HNX.out, by omega, HKV.out.symm, rfl, rfl, HCR.out, by omega, by omega, HSM2.out, HBX.out, HR2.out.symm⟩
              case measure => simp only [intOf, lenS]; omega
        · have HR2 := hid (HFL.out.symm.trans (followL_bad (by rw [hst]; exact her)))
          have cc := hid (fun (d : Nat) (os : Array Obj) => rg_call (HSTEP.out (rg wr d os) (rg_below _ _ _)))
          rw [hst] at cc HR2
          simp only [resV, if_neg her] at cc
          have her' : (er == 0) = false := by simpa using her
          unfold CR.v at cc
          have HER := hid her
          clear hst HSTEP her
          go_wp2_with fail
          refine region_rg (by kernel_rfl) (by kernel_rfl) ?_
          repeat (quiet_step (with_reducible exact cc.out _ _))
          refine wpQuiet_nil ?_
          intro _ hw'
          obtain ⟨⟨dq, osq⟩, hw''⟩ := hw'
          subst hw''
          go_wp2_with fail
          go_ret2
          exact ⟨by rw [HR2.out]; unfold resV; rw [if_neg HER.out]; rfl, bthen HWW.out (rg_below wr dq osq)⟩
end Go.Proofs.Ytgclemicgcbpjaa
