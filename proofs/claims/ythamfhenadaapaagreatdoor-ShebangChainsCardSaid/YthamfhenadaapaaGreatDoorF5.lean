
/- vfs: Walk. -/
import Derived.Test.YthamfhenadaapaaGreatDoorKF
namespace Go.Proofs.YthamfhenadaapaaGreatDoor
open Go.RowKit Go.Sort

theorem follow_in {L : List ND} (hf : Fine L) {c : CR} {last : Bool} : ∀ {links at_ : Nat} {left : List BL} {nx : Nat}, followL L c last links at_ left = (0, nx) → at_ < L.length → nx < L.length := by
  intro links at_ left
  fun_induction followL L c last links at_ left with
  | case1 links at_ => intro nx h hi; cases h; exact hi
  | case2 links at_ p rest h1 h2 ih =>
    intro nx h hi
    refine ih h (step_in hf hi (c := c) (p := p) ?_)
    rw [← h1]
  | case3 => intro nx h hi; cases h
  | case4 links at_ p rest h1 h2 h3 ih =>
    intro nx h hi
    refine ih h ?_
    split
    · exact hf.pos
    · exact hi
  | case5 links at_ p rest h1 => intro nx h hi; exact absurd (congrArg Prod.fst h) h1

def walkL (L : List ND) (c : CR) (from_ : Int) (p : BL) (last : Bool) : Int × Int :=
  if 0 ≤ from_ ∧ from_ < (L.length : Int) ∧ (L.getD from_.toNat default).kind = 2 then
    if chkE p = 0 then
      if (followL L c (last || tailB p) 0 (if rootF p = true then 0 else from_.toNat) (partsF p)).1 = 0 then
        if tailB p = true ∧ (L.getD (followL L c (last || tailB p) 0 (if rootF p = true then 0 else from_.toNat) (partsF p)).2 default).kind ≠ 2 then (0, 8)
        else (((followL L c (last || tailB p) 0 (if rootF p = true then 0 else from_.toNat) (partsF p)).2 : Nat), 0)
      else (0, (followL L c (last || tailB p) 0 (if rootF p = true then 0 else from_.toNat) (partsF p)).1)
    else (0, chkE p)
  else (0, 1)
def walkV (r : Int × Int) : Value := .tuple #[.int .i64 r.1, .int .i64 r.2]
section
variable {L : List ND} {c : CR} {from_ : Int} {p : BL} {last : Bool} {st nx : Nat} {er : Int}
theorem walkL_from (h : ¬ (0 ≤ from_ ∧ from_ < (L.length : Int) ∧ (L.getD from_.toNat default).kind = 2)) : walkL L c from_ p last = (0, 1) := by unfold walkL; rw [if_neg h]
theorem walkL_chk (h : 0 ≤ from_ ∧ from_ < (L.length : Int) ∧ (L.getD from_.toNat default).kind = 2) (h2 : ¬ chkE p = 0) : walkL L c from_ p last = (0, chkE p) := by unfold walkL; rw [if_pos h, if_neg h2]
theorem walkL_bad (h : 0 ≤ from_ ∧ from_ < (L.length : Int) ∧ (L.getD from_.toNat default).kind = 2) (h2 : chkE p = 0) (h3 : (if rootF p = true then 0 else from_.toNat) = st) (h4 : followL L c (last || tailB p) 0 st (partsF p) = (er, nx)) (h5 : ¬ er = 0) : walkL L c from_ p last = (0, er) := by
  unfold walkL; rw [if_pos h, if_pos h2, h3, h4, if_neg h5]
theorem walkL_ok (h : 0 ≤ from_ ∧ from_ < (L.length : Int) ∧ (L.getD from_.toNat default).kind = 2) (h2 : chkE p = 0) (h3 : (if rootF p = true then 0 else from_.toNat) = st) (h4 : followL L c (last || tailB p) 0 st (partsF p) = (0, nx)) (h5 : tailB p = false ∨ (L.getD nx default).kind = 2) : walkL L c from_ p last = (((nx : Nat) : Int), 0) := by
  unfold walkL; rw [if_pos h, if_pos h2, h3, h4, if_pos rfl, if_neg]
  rintro ⟨h6, h7⟩
  rcases h5 with h5 | h5
  · rw [h5] at h6; cases h6
  · exact h7 h5
theorem walkL_notdir (h : 0 ≤ from_ ∧ from_ < (L.length : Int) ∧ (L.getD from_.toNat default).kind = 2) (h2 : chkE p = 0) (h3 : (if rootF p = true then 0 else from_.toNat) = st) (h4 : followL L c (last || tailB p) 0 st (partsF p) = (0, nx)) (h5 : tailB p = true) (h6 : ¬ (L.getD nx default).kind = 2) : walkL L c from_ p last = (0, 8) := by
  unfold walkL; rw [if_pos h, if_pos h2, h3, h4, if_pos rfl, if_pos ⟨h5, h6⟩]
end

set_option maxRecDepth 100000 in
set_option maxHeartbeats 8000000 in
theorem walk_any (F : Nat) (t : FT) (c : CR) (from_ : Int) (p : BL) (last : Bool) (w : World) (h : FSat w F t) (hc : CrOk w c) (hp : p.length ≤ 1000000) :
    Calls Tryz.prog 40 #[.pointer (some ⟨F, 0, none⟩), c.v, .int .i64 from_, .string (ba p), .bool last] w fun e w' => e = .returned (walkV (walkL t.L c from_ p last)) ∧ Below w.heap.size w w' := by
  have hb0 : Below w.heap.size w (w.alloc (.cells #[.int .u32 c.u, .int .u32 c.e, .int .u32 c.s, .int .u32 c.g, .slice c.a c.n c.c] 26)) := bal _
  have HX := hid (Row.new w 26 [.int .u32 c.u, .int .u32 c.e, .int .u32 c.s, .int .u32 c.g, .slice c.a c.n c.c])
  have HW0 := hid hb0
  have HFS := hid (h.below hb0)
  have HCR0 := hid (hc.below hb0)
  clear hb0 h hc
  unfold CR.v
  go_enter Tryz.func40, Tryz.ntmps40
  go_wp2_with fail
  obtain ⟨W0, hW0⟩ : ∃ W0, W0 = w.alloc (.cells #[.int .u32 c.u, .int .u32 c.e, .int .u32 c.s, .int .u32 c.g, .slice c.a c.n c.c] 26) := ⟨_, rfl⟩
  rw [show w.alloc (.cells [.int .u32 c.u, .int .u32 c.e, .int .u32 c.s, .int .u32 c.g, .slice c.a c.n c.c].toArray 26) = W0 from hW0.symm] at HX
  rw [← hW0] at HW0 HFS HCR0 ⊢
  clear hW0
  by_cases hin : 0 ≤ from_ ∧ from_ < (t.L.length : Int)
  · obtain ⟨i, rfl⟩ : ∃ i : Nat, from_ = (i : Int) := ⟨from_.toNat, by omega⟩
    have hi : i < t.L.length := by omega
    have hnode := node_any F t (i : Int) W0 HFS.out
    rw [show nodeE t (i : Int) = .tuple #[ndV (t.pt i), .bool true] by unfold nodeE; rw [if_pos hin]; rfl] at hnode
    refine hnode.mono ?_
    rintro e' w1 ⟨rfl, rfl⟩
    have HI := hid hi
    have HIN := hid hin
    clear hnode hin hi
    go_wp2_with fail
    have hdir := isDir_any (t.nd i).kind (t.bk i) W0
    rw [show ndV (ndT (t.nd i).kind, t.bk i) = ndV (t.pt i) from rfl] at hdir
    refine hdir.mono ?_
    rintro e' w1 ⟨rfl, rfl⟩
    clear hdir
    by_cases hk : (t.nd i).kind = 2
    · rw [decide_eq_true hk]
      have HFR := hid (show 0 ≤ (i : Int) ∧ (i : Int) < (t.L.length : Int) ∧ (t.L.getD (i : Int).toNat default).kind = 2 from ⟨HIN.out.1, HIN.out.2, hk⟩)
      have HKI := hid hk
      clear hk
      go_wp2_with fail
      refine (parts_any (ba p) W0 (by rw [ba_size]; exact hp)).mono ?_
      rintro e' w2 ⟨v2, rfl, ho, hb⟩
      rw [show (ba p).data.toList = p from rfl] at ho ⊢
      have HWW2 := hid (bthen HW0.out hb)
      have HFS2 := hid (HFS.out.below hb)
      have HCR2 := hid (HCR0.out.below hb)
      have HBX2 := hid (HX.out.below hb HX.out.lt)
      obtain ⟨a7, c7, rfl, hc7, _, hcc7, _⟩ := own_cel ho
      have HC2 := hid hc7
      have HCC2 := hid hcc7
      clear ho hb hc7 hcc7
      by_cases hck : chkE p = 0
      · rw [hck]
        have HCK := hid hck
        clear hck
        cases hrt : rootF p
        · have HST := hid (show (if rootF p = true then 0 else (i : Int).toNat) = i by rw [hrt]; rfl)
          have HSTI := hid HI.out
          clear hrt
          go_wp2_with fail
          generalize w2 = W2 at *
          cases last
          · have cc1 := hid (fun (d : Nat) (os : Array Obj) => rg_same (tail_any (ba p) (rg W2 d os) (by rw [ba_size]; omega)))
            rw [show (ba p).data.toList = p from rfl] at cc1
            obtain ⟨q0, q1, q2, q3, q4⟩ := five_rg HBX2.out.five
            have HFOL := hid (fun (wz : World) (hz : Below W2.heap.size W2 wz) => follow_any F t c i (partsF p) a7 c7 (tailB p) wz (HFS2.out.below hz) HSTI.out (HCR2.out.below hz) (HC2.out.below' hz) HCC2.out (parts_count p) (parts_small p))
            cases hfo : followL t.L c (tailB p) 0 i (partsF p) with
            | mk er nx =>
              by_cases her : er = 0
              · subst her
                have HFO := hid (show followL t.L c (false || tailB p) 0 i (partsF p) = (0, nx) from hfo)
                have HNX := hid (follow_in HFS2.out.fine hfo HSTI.out)
                have cc := hid (fun (d : Nat) (os : Array Obj) => rg_call (HFOL.out (rg W2 d os) (rg_below _ _ _)))
                rw [hfo] at cc
                simp only [resV, if_true] at cc
                unfold CR.v at cc
                have HKV := hid (ndV_kind (t.nd nx).kind (t.bk nx))
                rw [show ndV (ndT (t.nd nx).kind, t.bk nx) = ndV (t.pt nx) from rfl] at HKV
                clear hfo HFOL
                refine region_rg (by kernel_rfl) (by kernel_rfl) ?_
                repeat (quiet_step (first | with_reducible exact cc1.out _ _ | with_reducible exact cc.out _ _))
                refine wpQuiet_nil ?_
                intro _ hw'
                obtain ⟨⟨dq, osq⟩, hw''⟩ := hw'
                subst hw''
                have HWW3 := hid (bthen HWW2.out (rg_below W2 dq osq))
                have HFS3 := hid (HFS2.out.below (rg_below W2 dq osq))
                clear q0 q1 q2 q3 q4 cc cc1
                generalize rg W2 dq osq = W3 at *
                go_wp2_with fail
                have htl := tail_any (ba p) W3 (by rw [ba_size]; omega)
                rw [show (ba p).data.toList = p from rfl] at htl
                have HTL := hid htl
                clear htl
                cases htb : tailB p
                · have HR2 := hid (walkL_ok HFR.out HCK.out HST.out HFO.out (.inl htb))
                  rw [htb] at HTL
                  clear htb
                  go_wp2_with fail
                  refine (HTL.out).mono ?_
                  rintro e' w4 ⟨rfl, rfl⟩
                  obtain ⟨v9, hr9⟩ := (HFS3.out.node _ HNX.out).head
                  obtain ⟨⟨g0, g1, g2, g3, g4⟩, g5, g6, g7, g8⟩ := hd_cells hr9
                  have hl9 := hr9.lt
                  clear hr9
                  rw [HKV.out]
                  by_cases h2 : (t.nd nx).kind = 2
                  · rw [if_pos h2]
                    clear h2
                    have hm := me_d
                    go_wp2_with fail
                    refine (self_any _ _).mono ?_
                    rintro e' w4 ⟨rfl, rfl⟩
                    go_wp2_with fail
                    go_ret2
                    exact ⟨by rw [HR2.out]; rfl, HWW3.out⟩
                  · rw [if_neg h2]
                    by_cases h3 : (t.nd nx).kind = 3
                    · rw [if_pos h3]
                      clear h3 h2
                      have hm := me_l
                      go_wp2_with fail
                      refine (self_any _ _).mono ?_
                      rintro e' w4 ⟨rfl, rfl⟩
                      go_wp2_with fail
                      go_ret2
                      exact ⟨by rw [HR2.out]; rfl, HWW3.out⟩
                    · rw [if_neg h3]
                      clear h3 h2
                      have hm := me_f
                      go_wp2_with fail
                      refine (self_any _ _).mono ?_
                      rintro e' w4 ⟨rfl, rfl⟩
                      go_wp2_with fail
                      go_ret2
                      exact ⟨by rw [HR2.out]; rfl, HWW3.out⟩
                · rw [htb] at HTL
                  have HTB := hid htb
                  clear htb
                  go_wp2_with fail
                  refine (HTL.out).mono ?_
                  rintro e' w4 ⟨rfl, rfl⟩
                  go_wp2_with fail
                  have hid9 := isDir_any (t.nd nx).kind (t.bk nx) W3
                  rw [show ndV (ndT (t.nd nx).kind, t.bk nx) = ndV (t.pt nx) from rfl] at hid9
                  refine hid9.mono ?_
                  rintro e' w4 ⟨rfl, rfl⟩
                  by_cases hk2 : (t.nd nx).kind = 2
                  · have HR2 := hid (walkL_ok HFR.out HCK.out HST.out HFO.out (.inr hk2))
                    rw [decide_eq_true hk2]
                    obtain ⟨v9, hr9⟩ := (HFS3.out.node _ HNX.out).head
                    obtain ⟨⟨g0, g1, g2, g3, g4⟩, g5, g6, g7, g8⟩ := hd_cells hr9
                    have hl9 := hr9.lt
                    clear hr9 hid9
                    rw [HKV.out, if_pos hk2]
                    have hm := me_d
                    clear hk2
                    go_wp2_with fail
                    refine (self_any _ _).mono ?_
                    rintro e' w4 ⟨rfl, rfl⟩
                    go_wp2_with fail
                    go_ret2
                    exact ⟨by rw [HR2.out]; rfl, HWW3.out⟩
                  · have HR2 := hid (walkL_notdir HFR.out HCK.out HST.out HFO.out HTB.out hk2)
                    rw [decide_eq_false hk2]
                    clear hk2 hid9
                    go_wp2_with fail
                    go_ret2
                    exact ⟨by rw [HR2.out]; rfl, HWW3.out⟩
              · have HR2 := hid (walkL_bad HFR.out HCK.out HST.out (show followL t.L c (false || tailB p) 0 i (partsF p) = (er, nx) from hfo) her)
                have cc := hid (fun (d : Nat) (os : Array Obj) => rg_call (HFOL.out (rg W2 d os) (rg_below _ _ _)))
                rw [hfo] at cc
                simp only [resV, if_neg her] at cc
                unfold CR.v at cc
                have her' : (er == 0) = false := by simpa using her
                clear hfo HFOL her
                refine region_rg (by kernel_rfl) (by kernel_rfl) ?_
                repeat (quiet_step (first | with_reducible exact cc1.out _ _ | with_reducible exact cc.out _ _))
                refine wpQuiet_nil ?_
                intro _ hw'
                obtain ⟨⟨dq, osq⟩, hw''⟩ := hw'
                subst hw''
                go_wp2_with fail
                go_ret2
                exact ⟨by rw [HR2.out]; rfl, bthen HWW2.out (rg_below W2 dq osq)⟩
          · have cc1 := hid (fun (d : Nat) (os : Array Obj) => rg_same (tail_any (ba p) (rg W2 d os) (by rw [ba_size]; omega)))
            rw [show (ba p).data.toList = p from rfl] at cc1
            obtain ⟨q0, q1, q2, q3, q4⟩ := five_rg HBX2.out.five
            have HFOL := hid (fun (wz : World) (hz : Below W2.heap.size W2 wz) => follow_any F t c i (partsF p) a7 c7 (true) wz (HFS2.out.below hz) HSTI.out (HCR2.out.below hz) (HC2.out.below' hz) HCC2.out (parts_count p) (parts_small p))
            cases hfo : followL t.L c (true) 0 i (partsF p) with
            | mk er nx =>
              by_cases her : er = 0
              · subst her
                have HFO := hid (show followL t.L c (true || tailB p) 0 i (partsF p) = (0, nx) from hfo)
                have HNX := hid (follow_in HFS2.out.fine hfo HSTI.out)
                have cc := hid (fun (d : Nat) (os : Array Obj) => rg_call (HFOL.out (rg W2 d os) (rg_below _ _ _)))
                rw [hfo] at cc
                simp only [resV, if_true] at cc
                unfold CR.v at cc
                have HKV := hid (ndV_kind (t.nd nx).kind (t.bk nx))
                rw [show ndV (ndT (t.nd nx).kind, t.bk nx) = ndV (t.pt nx) from rfl] at HKV
                clear hfo HFOL
                refine region_rg (by kernel_rfl) (by kernel_rfl) ?_
                repeat (quiet_step (first | with_reducible exact cc1.out _ _ | with_reducible exact cc.out _ _))
                refine wpQuiet_nil ?_
                intro _ hw'
                obtain ⟨⟨dq, osq⟩, hw''⟩ := hw'
                subst hw''
                have HWW3 := hid (bthen HWW2.out (rg_below W2 dq osq))
                have HFS3 := hid (HFS2.out.below (rg_below W2 dq osq))
                clear q0 q1 q2 q3 q4 cc cc1
                generalize rg W2 dq osq = W3 at *
                go_wp2_with fail
                have htl := tail_any (ba p) W3 (by rw [ba_size]; omega)
                rw [show (ba p).data.toList = p from rfl] at htl
                have HTL := hid htl
                clear htl
                cases htb : tailB p
                · have HR2 := hid (walkL_ok HFR.out HCK.out HST.out HFO.out (.inl htb))
                  rw [htb] at HTL
                  clear htb
                  go_wp2_with fail
                  refine (HTL.out).mono ?_
                  rintro e' w4 ⟨rfl, rfl⟩
                  obtain ⟨v9, hr9⟩ := (HFS3.out.node _ HNX.out).head
                  obtain ⟨⟨g0, g1, g2, g3, g4⟩, g5, g6, g7, g8⟩ := hd_cells hr9
                  have hl9 := hr9.lt
                  clear hr9
                  rw [HKV.out]
                  by_cases h2 : (t.nd nx).kind = 2
                  · rw [if_pos h2]
                    clear h2
                    have hm := me_d
                    go_wp2_with fail
                    refine (self_any _ _).mono ?_
                    rintro e' w4 ⟨rfl, rfl⟩
                    go_wp2_with fail
                    go_ret2
                    exact ⟨by rw [HR2.out]; rfl, HWW3.out⟩
                  · rw [if_neg h2]
                    by_cases h3 : (t.nd nx).kind = 3
                    · rw [if_pos h3]
                      clear h3 h2
                      have hm := me_l
                      go_wp2_with fail
                      refine (self_any _ _).mono ?_
                      rintro e' w4 ⟨rfl, rfl⟩
                      go_wp2_with fail
                      go_ret2
                      exact ⟨by rw [HR2.out]; rfl, HWW3.out⟩
                    · rw [if_neg h3]
                      clear h3 h2
                      have hm := me_f
                      go_wp2_with fail
                      refine (self_any _ _).mono ?_
                      rintro e' w4 ⟨rfl, rfl⟩
                      go_wp2_with fail
                      go_ret2
                      exact ⟨by rw [HR2.out]; rfl, HWW3.out⟩
                · rw [htb] at HTL
                  have HTB := hid htb
                  clear htb
                  go_wp2_with fail
                  refine (HTL.out).mono ?_
                  rintro e' w4 ⟨rfl, rfl⟩
                  go_wp2_with fail
                  have hid9 := isDir_any (t.nd nx).kind (t.bk nx) W3
                  rw [show ndV (ndT (t.nd nx).kind, t.bk nx) = ndV (t.pt nx) from rfl] at hid9
                  refine hid9.mono ?_
                  rintro e' w4 ⟨rfl, rfl⟩
                  by_cases hk2 : (t.nd nx).kind = 2
                  · have HR2 := hid (walkL_ok HFR.out HCK.out HST.out HFO.out (.inr hk2))
                    rw [decide_eq_true hk2]
                    obtain ⟨v9, hr9⟩ := (HFS3.out.node _ HNX.out).head
                    obtain ⟨⟨g0, g1, g2, g3, g4⟩, g5, g6, g7, g8⟩ := hd_cells hr9
                    have hl9 := hr9.lt
                    clear hr9 hid9
                    rw [HKV.out, if_pos hk2]
                    have hm := me_d
                    clear hk2
                    go_wp2_with fail
                    refine (self_any _ _).mono ?_
                    rintro e' w4 ⟨rfl, rfl⟩
                    go_wp2_with fail
                    go_ret2
                    exact ⟨by rw [HR2.out]; rfl, HWW3.out⟩
                  · have HR2 := hid (walkL_notdir HFR.out HCK.out HST.out HFO.out HTB.out hk2)
                    rw [decide_eq_false hk2]
                    clear hk2 hid9
                    go_wp2_with fail
                    go_ret2
                    exact ⟨by rw [HR2.out]; rfl, HWW3.out⟩
              · have HR2 := hid (walkL_bad HFR.out HCK.out HST.out (show followL t.L c (true || tailB p) 0 i (partsF p) = (er, nx) from hfo) her)
                have cc := hid (fun (d : Nat) (os : Array Obj) => rg_call (HFOL.out (rg W2 d os) (rg_below _ _ _)))
                rw [hfo] at cc
                simp only [resV, if_neg her] at cc
                unfold CR.v at cc
                have her' : (er == 0) = false := by simpa using her
                clear hfo HFOL her
                refine region_rg (by kernel_rfl) (by kernel_rfl) ?_
                repeat (quiet_step (first | with_reducible exact cc1.out _ _ | with_reducible exact cc.out _ _))
                refine wpQuiet_nil ?_
                intro _ hw'
                obtain ⟨⟨dq, osq⟩, hw''⟩ := hw'
                subst hw''
                go_wp2_with fail
                go_ret2
                exact ⟨by rw [HR2.out]; rfl, bthen HWW2.out (rg_below W2 dq osq)⟩
        · have HST := hid (show (if rootF p = true then 0 else (i : Int).toNat) = 0 by rw [hrt]; rfl)
          have HSTI := hid HFS2.out.fine.pos
          clear hrt
          obtain ⟨a9, c9, z0, z1, hFz, _⟩ := HFS2.out.at
          have HK0 := hid (show ndV (t.pt 0) = .iface 52 (.pointer (some ⟨t.bk 0, 0, none⟩)) by
            have hk0 : (t.nd 0).kind = 2 := HFS2.out.fine.root
            rw [show ndV (t.pt 0) = ndV (ndT (t.nd 0).kind, t.bk 0) from rfl, ndV_kind, if_pos hk0])
          clear z1
          go_wp2_with fail
          rw [← HK0.out]
          clear z0 hFz
          generalize w2 = W2 at *
          cases last
          · have cc1 := hid (fun (d : Nat) (os : Array Obj) => rg_same (tail_any (ba p) (rg W2 d os) (by rw [ba_size]; omega)))
            rw [show (ba p).data.toList = p from rfl] at cc1
            obtain ⟨q0, q1, q2, q3, q4⟩ := five_rg HBX2.out.five
            have HFOL := hid (fun (wz : World) (hz : Below W2.heap.size W2 wz) => follow_any F t c 0 (partsF p) a7 c7 (tailB p) wz (HFS2.out.below hz) HSTI.out (HCR2.out.below hz) (HC2.out.below' hz) HCC2.out (parts_count p) (parts_small p))
            cases hfo : followL t.L c (tailB p) 0 0 (partsF p) with
            | mk er nx =>
              by_cases her : er = 0
              · subst her
                have HFO := hid (show followL t.L c (false || tailB p) 0 0 (partsF p) = (0, nx) from hfo)
                have HNX := hid (follow_in HFS2.out.fine hfo HSTI.out)
                have cc := hid (fun (d : Nat) (os : Array Obj) => rg_call (HFOL.out (rg W2 d os) (rg_below _ _ _)))
                rw [hfo] at cc
                simp only [resV, if_true] at cc
                unfold CR.v at cc
                have HKV := hid (ndV_kind (t.nd nx).kind (t.bk nx))
                rw [show ndV (ndT (t.nd nx).kind, t.bk nx) = ndV (t.pt nx) from rfl] at HKV
                clear hfo HFOL
                refine region_rg (by kernel_rfl) (by kernel_rfl) ?_
                repeat (quiet_step (first | with_reducible exact cc1.out _ _ | with_reducible exact cc.out _ _))
                refine wpQuiet_nil ?_
                intro _ hw'
                obtain ⟨⟨dq, osq⟩, hw''⟩ := hw'
                subst hw''
                have HWW3 := hid (bthen HWW2.out (rg_below W2 dq osq))
                have HFS3 := hid (HFS2.out.below (rg_below W2 dq osq))
                clear q0 q1 q2 q3 q4 cc cc1
                generalize rg W2 dq osq = W3 at *
                go_wp2_with fail
                have htl := tail_any (ba p) W3 (by rw [ba_size]; omega)
                rw [show (ba p).data.toList = p from rfl] at htl
                have HTL := hid htl
                clear htl
                cases htb : tailB p
                · have HR2 := hid (walkL_ok HFR.out HCK.out HST.out HFO.out (.inl htb))
                  rw [htb] at HTL
                  clear htb
                  go_wp2_with fail
                  refine (HTL.out).mono ?_
                  rintro e' w4 ⟨rfl, rfl⟩
                  obtain ⟨v9, hr9⟩ := (HFS3.out.node _ HNX.out).head
                  obtain ⟨⟨g0, g1, g2, g3, g4⟩, g5, g6, g7, g8⟩ := hd_cells hr9
                  have hl9 := hr9.lt
                  clear hr9
                  rw [HKV.out]
                  by_cases h2 : (t.nd nx).kind = 2
                  · rw [if_pos h2]
                    clear h2
                    have hm := me_d
                    go_wp2_with fail
                    refine (self_any _ _).mono ?_
                    rintro e' w4 ⟨rfl, rfl⟩
                    go_wp2_with fail
                    go_ret2
                    exact ⟨by rw [HR2.out]; rfl, HWW3.out⟩
                  · rw [if_neg h2]
                    by_cases h3 : (t.nd nx).kind = 3
                    · rw [if_pos h3]
                      clear h3 h2
                      have hm := me_l
                      go_wp2_with fail
                      refine (self_any _ _).mono ?_
                      rintro e' w4 ⟨rfl, rfl⟩
                      go_wp2_with fail
                      go_ret2
                      exact ⟨by rw [HR2.out]; rfl, HWW3.out⟩
                    · rw [if_neg h3]
                      clear h3 h2
                      have hm := me_f
                      go_wp2_with fail
                      refine (self_any _ _).mono ?_
                      rintro e' w4 ⟨rfl, rfl⟩
                      go_wp2_with fail
                      go_ret2
                      exact ⟨by rw [HR2.out]; rfl, HWW3.out⟩
                · rw [htb] at HTL
                  have HTB := hid htb
                  clear htb
                  go_wp2_with fail
                  refine (HTL.out).mono ?_
                  rintro e' w4 ⟨rfl, rfl⟩
                  go_wp2_with fail
                  have hid9 := isDir_any (t.nd nx).kind (t.bk nx) W3
                  rw [show ndV (ndT (t.nd nx).kind, t.bk nx) = ndV (t.pt nx) from rfl] at hid9
                  refine hid9.mono ?_
                  rintro e' w4 ⟨rfl, rfl⟩
                  by_cases hk2 : (t.nd nx).kind = 2
                  · have HR2 := hid (walkL_ok HFR.out HCK.out HST.out HFO.out (.inr hk2))
                    rw [decide_eq_true hk2]
                    obtain ⟨v9, hr9⟩ := (HFS3.out.node _ HNX.out).head
                    obtain ⟨⟨g0, g1, g2, g3, g4⟩, g5, g6, g7, g8⟩ := hd_cells hr9
                    have hl9 := hr9.lt
                    clear hr9 hid9
                    rw [HKV.out, if_pos hk2]
                    have hm := me_d
                    clear hk2
                    go_wp2_with fail
                    refine (self_any _ _).mono ?_
                    rintro e' w4 ⟨rfl, rfl⟩
                    go_wp2_with fail
                    go_ret2
                    exact ⟨by rw [HR2.out]; rfl, HWW3.out⟩
                  · have HR2 := hid (walkL_notdir HFR.out HCK.out HST.out HFO.out HTB.out hk2)
                    rw [decide_eq_false hk2]
                    clear hk2 hid9
                    go_wp2_with fail
                    go_ret2
                    exact ⟨by rw [HR2.out]; rfl, HWW3.out⟩
              · have HR2 := hid (walkL_bad HFR.out HCK.out HST.out (show followL t.L c (false || tailB p) 0 0 (partsF p) = (er, nx) from hfo) her)
                have cc := hid (fun (d : Nat) (os : Array Obj) => rg_call (HFOL.out (rg W2 d os) (rg_below _ _ _)))
                rw [hfo] at cc
                simp only [resV, if_neg her] at cc
                unfold CR.v at cc
                have her' : (er == 0) = false := by simpa using her
                clear hfo HFOL her
                refine region_rg (by kernel_rfl) (by kernel_rfl) ?_
                repeat (quiet_step (first | with_reducible exact cc1.out _ _ | with_reducible exact cc.out _ _))
                refine wpQuiet_nil ?_
                intro _ hw'
                obtain ⟨⟨dq, osq⟩, hw''⟩ := hw'
                subst hw''
                go_wp2_with fail
                go_ret2
                exact ⟨by rw [HR2.out]; rfl, bthen HWW2.out (rg_below W2 dq osq)⟩
          · have cc1 := hid (fun (d : Nat) (os : Array Obj) => rg_same (tail_any (ba p) (rg W2 d os) (by rw [ba_size]; omega)))
            rw [show (ba p).data.toList = p from rfl] at cc1
            obtain ⟨q0, q1, q2, q3, q4⟩ := five_rg HBX2.out.five
            have HFOL := hid (fun (wz : World) (hz : Below W2.heap.size W2 wz) => follow_any F t c 0 (partsF p) a7 c7 (true) wz (HFS2.out.below hz) HSTI.out (HCR2.out.below hz) (HC2.out.below' hz) HCC2.out (parts_count p) (parts_small p))
            cases hfo : followL t.L c (true) 0 0 (partsF p) with
            | mk er nx =>
              by_cases her : er = 0
              · subst her
                have HFO := hid (show followL t.L c (true || tailB p) 0 0 (partsF p) = (0, nx) from hfo)
                have HNX := hid (follow_in HFS2.out.fine hfo HSTI.out)
                have cc := hid (fun (d : Nat) (os : Array Obj) => rg_call (HFOL.out (rg W2 d os) (rg_below _ _ _)))
                rw [hfo] at cc
                simp only [resV, if_true] at cc
                unfold CR.v at cc
                have HKV := hid (ndV_kind (t.nd nx).kind (t.bk nx))
                rw [show ndV (ndT (t.nd nx).kind, t.bk nx) = ndV (t.pt nx) from rfl] at HKV
                clear hfo HFOL
                refine region_rg (by kernel_rfl) (by kernel_rfl) ?_
                repeat (quiet_step (first | with_reducible exact cc1.out _ _ | with_reducible exact cc.out _ _))
                refine wpQuiet_nil ?_
                intro _ hw'
                obtain ⟨⟨dq, osq⟩, hw''⟩ := hw'
                subst hw''
                have HWW3 := hid (bthen HWW2.out (rg_below W2 dq osq))
                have HFS3 := hid (HFS2.out.below (rg_below W2 dq osq))
                clear q0 q1 q2 q3 q4 cc cc1
                generalize rg W2 dq osq = W3 at *
                go_wp2_with fail
                have htl := tail_any (ba p) W3 (by rw [ba_size]; omega)
                rw [show (ba p).data.toList = p from rfl] at htl
                have HTL := hid htl
                clear htl
                cases htb : tailB p
                · have HR2 := hid (walkL_ok HFR.out HCK.out HST.out HFO.out (.inl htb))
                  rw [htb] at HTL
                  clear htb
                  go_wp2_with fail
                  refine (HTL.out).mono ?_
                  rintro e' w4 ⟨rfl, rfl⟩
                  obtain ⟨v9, hr9⟩ := (HFS3.out.node _ HNX.out).head
                  obtain ⟨⟨g0, g1, g2, g3, g4⟩, g5, g6, g7, g8⟩ := hd_cells hr9
                  have hl9 := hr9.lt
                  clear hr9
                  rw [HKV.out]
                  by_cases h2 : (t.nd nx).kind = 2
                  · rw [if_pos h2]
                    clear h2
                    have hm := me_d
                    go_wp2_with fail
                    refine (self_any _ _).mono ?_
                    rintro e' w4 ⟨rfl, rfl⟩
                    go_wp2_with fail
                    go_ret2
                    exact ⟨by rw [HR2.out]; rfl, HWW3.out⟩
                  · rw [if_neg h2]
                    by_cases h3 : (t.nd nx).kind = 3
                    · rw [if_pos h3]
                      clear h3 h2
                      have hm := me_l
                      go_wp2_with fail
                      refine (self_any _ _).mono ?_
                      rintro e' w4 ⟨rfl, rfl⟩
                      go_wp2_with fail
                      go_ret2
                      exact ⟨by rw [HR2.out]; rfl, HWW3.out⟩
                    · rw [if_neg h3]
                      clear h3 h2
                      have hm := me_f
                      go_wp2_with fail
                      refine (self_any _ _).mono ?_
                      rintro e' w4 ⟨rfl, rfl⟩
                      go_wp2_with fail
                      go_ret2
                      exact ⟨by rw [HR2.out]; rfl, HWW3.out⟩
                · rw [htb] at HTL
                  have HTB := hid htb
                  clear htb
                  go_wp2_with fail
                  refine (HTL.out).mono ?_
                  rintro e' w4 ⟨rfl, rfl⟩
                  go_wp2_with fail
                  have hid9 := isDir_any (t.nd nx).kind (t.bk nx) W3
                  rw [show ndV (ndT (t.nd nx).kind, t.bk nx) = ndV (t.pt nx) from rfl] at hid9
                  refine hid9.mono ?_
                  rintro e' w4 ⟨rfl, rfl⟩
                  by_cases hk2 : (t.nd nx).kind = 2
                  · have HR2 := hid (walkL_ok HFR.out HCK.out HST.out HFO.out (.inr hk2))
                    rw [decide_eq_true hk2]
                    obtain ⟨v9, hr9⟩ := (HFS3.out.node _ HNX.out).head
                    obtain ⟨⟨g0, g1, g2, g3, g4⟩, g5, g6, g7, g8⟩ := hd_cells hr9
                    have hl9 := hr9.lt
                    clear hr9 hid9
                    rw [HKV.out, if_pos hk2]
                    have hm := me_d
                    clear hk2
                    go_wp2_with fail
                    refine (self_any _ _).mono ?_
                    rintro e' w4 ⟨rfl, rfl⟩
                    go_wp2_with fail
                    go_ret2
                    exact ⟨by rw [HR2.out]; rfl, HWW3.out⟩
                  · have HR2 := hid (walkL_notdir HFR.out HCK.out HST.out HFO.out HTB.out hk2)
                    rw [decide_eq_false hk2]
                    clear hk2 hid9
                    go_wp2_with fail
                    go_ret2
                    exact ⟨by rw [HR2.out]; rfl, HWW3.out⟩
              · have HR2 := hid (walkL_bad HFR.out HCK.out HST.out (show followL t.L c (true || tailB p) 0 0 (partsF p) = (er, nx) from hfo) her)
                have cc := hid (fun (d : Nat) (os : Array Obj) => rg_call (HFOL.out (rg W2 d os) (rg_below _ _ _)))
                rw [hfo] at cc
                simp only [resV, if_neg her] at cc
                unfold CR.v at cc
                have her' : (er == 0) = false := by simpa using her
                clear hfo HFOL her
                refine region_rg (by kernel_rfl) (by kernel_rfl) ?_
                repeat (quiet_step (first | with_reducible exact cc1.out _ _ | with_reducible exact cc.out _ _))
                refine wpQuiet_nil ?_
                intro _ hw'
                obtain ⟨⟨dq, osq⟩, hw''⟩ := hw'
                subst hw''
                go_wp2_with fail
                go_ret2
                exact ⟨by rw [HR2.out]; rfl, bthen HWW2.out (rg_below W2 dq osq)⟩
      · have HR2 := hid (walkL_chk (c := c) (last := last) HFR.out hck)
        have hck' : (chkE p == 0) = false := by simpa using hck
        clear hck
        go_wp2_with fail
        go_ret2
        exact ⟨by rw [HR2.out]; rfl, HWW2.out⟩
    · rw [decide_eq_false hk]
      have HR2 := hid (walkL_from (c := c) (p := p) (last := last) (show ¬ (0 ≤ (i : Int) ∧ (i : Int) < (t.L.length : Int) ∧ (t.L.getD (i : Int).toNat default).kind = 2) from fun h => hk h.2.2))
      clear hk
      go_wp2_with fail
      go_ret2
      exact ⟨by rw [HR2.out]; rfl, HW0.out⟩
  · have HR2 := hid (walkL_from (c := c) (p := p) (last := last) (show ¬ (0 ≤ from_ ∧ from_ < (t.L.length : Int) ∧ (t.L.getD from_.toNat default).kind = 2) from fun h => hin ⟨h.1, h.2.1⟩))
    refine (node_out F t from_ W0 HFS.out hin).mono ?_
    rintro e' w1 ⟨rfl, rfl⟩
    clear hin
    go_wp2_with fail
    go_ret2
    exact ⟨by rw [HR2.out]; rfl, HW0.out⟩
end Go.Proofs.YthamfhenadaapaaGreatDoor
