
/- shebang: program, Chain. -/
import Derived.Test.YthamfhenadaapaaGreatDoorU2
import Derived.Test.YthamfhenadaapaaGreatDoorU5
import Derived.Test.YthamfhenadaapaaGreatDoorKN
import Derived.Test.YthamfhenadaapaaGreatDoorVm
import Derived.Test.YthamfhenadaapaaGreatDoorUC
import Derived.WalkMore
namespace Go.Proofs.YthamfhenadaapaaGreatDoor
open Go.RowKit Go.Sort
attribute [local go_sem] Oper.semAt_some

theorem walk_inU {L : List ND} (hf : Fine L) {c : CR} {cwd : Int} {p : BL} {last : Bool} {r : Int × Int} (hw : walkL L c cwd p last = r) (h : r.2 = 0) : ∃ nx : Nat, nx < L.length ∧ r.1 = nx := by
  subst hw
  by_cases h1 : 0 ≤ cwd ∧ cwd < (L.length : Int) ∧ (L.getD cwd.toNat default).kind = 2
  · by_cases h2 : chkE p = 0
    · rw [walkL_is (st := if rootF p = true then 0 else cwd.toNat) h1 h2 rfl] at h ⊢
      cases hF : followL L c (last || tailB p) 0 (if rootF p = true then 0 else cwd.toNat) (partsF p) with
      | mk er nx =>
        rw [hF] at h
        by_cases he : er = 0
        · subst he
          rw [if_pos rfl] at h ⊢
          by_cases h8 : tailB p = true ∧ (L.getD nx default).kind ≠ 2
          · rw [if_pos h8] at h; cases h
          · rw [if_neg h8]
            refine ⟨nx, follow_in hf hF ?_, rfl⟩
            split
            · exact hf.pos
            · omega
        · rw [if_neg he] at h; exact absurd h he
    · rw [walkL_chk h1 h2] at h; exact absurd h h2
  · rw [walkL_from h1] at h; cases h

theorem cel_bytU {w : World} {a : Option Addr} {n : Nat} {l : BL} (h : Cel w a n (l.map B8)) : Byt w a n l :=
  ⟨by have := h.hlen; rwa [List.length_map] at this, fun i hi => by
    obtain ⟨b, o, e, hc⟩ := h.cell i (by simpa using hi)
    exact ⟨b, o, e, by rw [hc]; simp [B8]⟩⟩
set_option maxRecDepth 100000 in
set_option maxHeartbeats 4000000 in
theorem prog_any (F : Nat) (t : FT) (c : CR) (p : BL) (w : World) (h : FSat w F t) (hc : CrOk w c) (hp : p.length ≤ 1000000) :
    Calls Tryz.prog 21 #[.pointer (some ⟨F, 0, none⟩), c.v, .string (ba p)] w fun e w' => e = .returned (.tuple #[.int .i64 (progL t.L c p).1, .int .i64 (progL t.L c p).2]) ∧ Below w.heap.size w w' := by
  obtain ⟨W0, hW0⟩ : ∃ W0, W0 = w.alloc (.cells #[.int .u32 c.u, .int .u32 c.e, .int .u32 c.s, .int .u32 c.g, .slice c.a c.n c.c] 26) := ⟨_, rfl⟩
  have hb0 : Below w.heap.size w W0 := by rw [hW0]; exact bal _
  have HX := hid (show Row W0 w.heap.size 26 [.int .u32 c.u, .int .u32 c.e, .int .u32 c.s, .int .u32 c.g, .slice c.a c.n c.c] by rw [hW0]; exact Row.new w 26 [.int .u32 c.u, .int .u32 c.e, .int .u32 c.s, .int .u32 c.g, .slice c.a c.n c.c])
  have HW0 := hid hb0
  have HF := hid (h.below hb0)
  have HC := hid (hc.below hb0)
  have HWA := hid (walk_any F t c 0 p true W0 HF.out HC.out hp)
  have HIN := hid (fun r hr hz => @walk_inU t.L h.fine c 0 p true r hr hz)
  obtain ⟨y0, y1, y2, y3, y4⟩ := HX.out.five
  have l2 := HX.out.lt
  have hwlt : w.heap.size < W0.heap.size := l2
  clear h hc hb0
  unfold CR.v
  cases hR : walkL t.L c 0 p true with
  | mk n er =>
    rw [hR] at HWA
    have HR := hid hR
    clear hR
    simp only [walkV, CR.v] at HWA
    by_cases he : er = 0
    · subst he
      obtain ⟨nx, hnx, hn⟩ := HIN.out _ HR.out rfl
      simp only at hn
      subst hn
      have HNX := hid hnx
      have HMO := hid (HF.out.fine.mode nx hnx)
      clear hnx HIN
      go_enter Tryz.func21, Tryz.ntmps21
      go_wp2_with fail
      rw [← hW0]
      clear hW0
      go_wp2_with fail
      refine (HWA.out).mono ?_
      rintro e' w1 ⟨rfl, hb⟩
      have HB1 := hid (bthen HW0.out hb)
      have HF1 := hid (HF.out.below hb)
      have HC1 := hid (HC.out.below hb)
      have HX1 := hid (HX.out.below hb HX.out.lt)
      clear hb HWA y0 y1 y2 y3 y4 l2
      go_wp2_with fail
      refine (meta_any F t nx w1 HF1.out HNX.out).mono ?_
      rintro e' w2 ⟨rfl, hb⟩
      have HB2 := hid (bthen HB1.out hb)
      have HX2 := hid (HX1.out.below hb HX1.out.lt)
      have HC2 := hid (HC1.out.below hb)
      have HMB := hid (@bal w2 (.cells #[.int .u8 (t.nd nx).kind, .int .u16 (t.nd nx).mode, .int .u32 (t.nd nx).uid, .int .u32 (t.nd nx).gid, .int .i64 (t.nd nx).size] 58))
      have HX3 := hid (HX2.out.below HMB.out HX2.out.lt)
      have HC3 := hid (HC2.out.below HMB.out)
      have HB3 := hid (bthen HB2.out HMB.out)
      obtain ⟨y0, y1, y2, y3, y4⟩ := HX3.out.five
      have l2 := HX3.out.lt
      have HMAY := hid (may_any c.u c.e c.s c.g (t.nd nx).kind (t.nd nx).mode (t.nd nx).uid (t.nd nx).gid (t.nd nx).size 1 c.a c.n c.c c.l _ HC3.out.nums HC3.out.most HMO.out.1 HMO.out.2)
      have HX : Hid (execB c (t.L.getD nx default) = (decide ((t.nd nx).kind = 1) && mayB c.e c.g c.l (t.nd nx).kind (t.nd nx).mode (t.nd nx).uid (t.nd nx).gid 1)) := hid rfl
      clear hb
      generalize mayB c.e c.g c.l (t.nd nx).kind (t.nd nx).mode (t.nd nx).uid (t.nd nx).gid 1 = mb at *
      by_cases hk : (t.nd nx).kind = 1
      · have dk : ((t.nd nx).kind != 1) = false := by simp [hk]
        rw [decide_eq_true hk] at HX
        clear hk
        cases mb
        · have HLL := hid (progL_not HR.out HX.out)
          go_wp2_with fail
          refine (HMAY.out).mono ?_
          rintro e' w4 ⟨rfl, hb4⟩
          have HB4 := hid (bthen HB3.out hb4)
          clear hb4 y0 y1 y2 y3 y4 l2 HMAY
          go_wp2_with fail
          go_ret2
          exact ⟨by rw [HLL.out]; rfl, HB4.out⟩
        · have HLL := hid (progL_ok HR.out HX.out)
          go_wp2_with fail
          refine (HMAY.out).mono ?_
          rintro e' w4 ⟨rfl, hb4⟩
          have HB4 := hid (bthen HB3.out hb4)
          clear hb4 y0 y1 y2 y3 y4 l2 HMAY
          go_wp2_with fail
          go_ret2
          exact ⟨by rw [HLL.out]; rfl, HB4.out⟩
      · have dk : ((t.nd nx).kind != 1) = true := by simpa using hk
        rw [decide_eq_false hk] at HX
        have HLL := hid (progL_not HR.out HX.out)
        clear hk
        go_wp2_with fail
        go_ret2
        exact ⟨by rw [HLL.out]; rfl, HB3.out⟩
    · have hne : (er != 0) = true := by simpa using he
      have HLL := hid (progL_bad (L := t.L) (c := c) (p := p) (e := er) (by rw [HR.out]) he)
      clear he HIN
      go_enter Tryz.func21, Tryz.ntmps21
      go_wp2_with fail
      rw [← hW0]
      clear hW0
      go_wp2_with fail
      refine (HWA.out).mono ?_
      rintro e' w1 ⟨rfl, hb⟩
      have HB1 := hid (bthen HW0.out hb)
      clear hb y0 y1 y2 y3 y4 l2
      go_wp2_with fail
      go_ret2
      exact ⟨by rw [HLL.out]; rfl, HB1.out⟩

def ChainPost (w : World) (r : Int × BL × List BL × Int) (e : Ending) (w' : World) : Prop := ∃ v, e = .returned (.tuple #[.int .i64 r.1, .string (ba r.2.1), v, .int .i64 r.2.2.2]) ∧ OwnS w' w.heap.size v r.2.2.1 ∧ Below w.heap.size w w'
theorem chain_ret {w w' : World} {r : Int × BL × List BL × Int} {n x : Int} {s : ByteArray} {v : Value} {q : BL} {o : List BL} (h : r = (n, q, o, x)) (hs : s = ba q) (ho : OwnS w' w.heap.size v o) (hb : Below w.heap.size w w') : ChainPost w r (.returned (.tuple #[.int .i64 n, .string s, v, .int .i64 x])) w' := by
  subst h hs
  exact ⟨v, rfl, ho, hb⟩
theorem argvL_mem {i a p : BL} {l : List BL} {N : Nat} (hi : i.length ≤ N) (ha : a.length ≤ N) (hp : p.length ≤ N) (hl : ∀ q ∈ l, q.length ≤ N) : ∀ q ∈ argvL i a p l, q.length ≤ N := by
  intro q hq
  unfold argvL at hq
  rcases List.mem_append.1 hq with h | h
  · split at h
    · simp only [List.mem_cons, List.not_mem_nil, or_false] at h
      rcases h with rfl | rfl <;> assumption
    · simp only [List.mem_cons, List.not_mem_nil, or_false] at h
      rcases h with rfl | rfl | rfl <;> assumption
  · exact hl q (List.mem_of_mem_drop h)
theorem own_nil3 (w : World) (B : Nat) : OwnS w B (.slice none 0 0) [] := ownS_nil w B
theorem rdB_all {l : BL} (h : l.length ≤ 65536) : rdB l 0 65536 = l := by
  unfold rdB
  rw [show (0 : Int).toNat = 0 from rfl, List.drop_zero, List.take_of_length_le (by simpa using h)]

set_option maxRecDepth 100000 in
set_option maxHeartbeats 16000000 in
theorem chain_any (F : Nat) (t : FT) (c : CR) (p : BL) (a0 : Option Addr) (n0 c0 : Nat) (argv : List BL) (w : World) (h : FSat w F t) (hc : CrOk w c) (hp : p.length ≤ 1000000) (hA : Cel w a0 n0 (strs argv)) (hnil : a0 = none → n0 = 0 ∧ c0 = 0) (hn : n0 ≤ 900000) (hs : ∀ q ∈ argv, q.length ≤ 1000000) :
    Calls Tryz.prog 11 #[.pointer (some ⟨F, 0, none⟩), c.v, .string (ba p), .slice a0 n0 c0] w (ChainPost w (chainL t.L c 4 p argv)) := by
  obtain ⟨i0, hi0, hz0, hz1, hz2⟩ := info_parts infoS
  obtain ⟨W0, hW0⟩ : ∃ W0, W0 = w.alloc (.cells #[.int .u32 c.u, .int .u32 c.e, .int .u32 c.s, .int .u32 c.g, .slice c.a c.n c.c] 26) := ⟨_, rfl⟩
  have hb0 : Below w.heap.size w W0 := by rw [hW0]; exact bal _
  have HX := hid (show Row W0 w.heap.size 26 [.int .u32 c.u, .int .u32 c.e, .int .u32 c.s, .int .u32 c.g, .slice c.a c.n c.c] by rw [hW0]; exact Row.new w 26 [.int .u32 c.u, .int .u32 c.e, .int .u32 c.s, .int .u32 c.g, .slice c.a c.n c.c])
  have HW0 := hid hb0
  have HF := hid (h.below hb0)
  have HC := hid (hc.below hb0)
  have HAC := hid (hA.below' hb0)
  have hnl := cel_len hA
  have HNL := hid hnl
  have HN1 := hid (show (strs argv).length = n0 * 1 by rw [strsS_len]; omega)
  have HN2 := hid (fun ad (h : a0 = some ad) => HAC.out.news' ad h)
  have HN3 := hid hnil
  have HN4 := hid (strsS_one argv)
  have HN5 := hid (show n0 ≤ maxLen by unfold maxLen; omega)
  have HN6 := hid (show n0 * 16 ≤ 140737488355328 by omega)
  have HSM := hid hs
  have HPL := hid hp
  have HPROG := hid (fun (q : BL) (hq : q.length ≤ 1000000) (wr : World) (hb : Below W0.heap.size W0 wr) => prog_any F t c q wr (HF.out.below hb) (HC.out.below hb) hq)
  have HIN := hid (show ∀ q n, progL t.L c q = (n, 0) → ∃ nx : Nat, nx < t.L.length ∧ n = nx ∧ (t.L.getD nx default).kind = 1 from by
    intro q n hq
    unfold progL at hq
    by_cases h1 : (walkL t.L c 0 q true).2 = 0
    · rw [if_neg (by rw [h1]; simp)] at hq
      obtain ⟨nx, hx1, hx2⟩ := walk_inU h.fine (rfl : walkL t.L c 0 q true = _) h1
      rw [hx2, Int.toNat_natCast] at hq
      by_cases h2 : execB c (t.L.getD nx default) = true
      · rw [if_pos h2] at hq
        refine ⟨nx, hx1, (congrArg Prod.fst hq).symm, ?_⟩
        unfold execB at h2
        simp only [Bool.and_eq_true, decide_eq_true_eq] at h2
        exact h2.1
      · rw [if_neg h2] at hq
        cases congrArg Prod.snd hq
    · rw [if_pos h1] at hq
      exact absurd (congrArg Prod.snd hq) h1)
  have hwlt : w.heap.size < W0.heap.size := HX.out.lt
  clear h hc hb0 hA hnil hs hp
  unfold CR.v
  go_enter Tryz.func11, Tryz.ntmps11
  go_wp2_with fail
  rw [← hW0]
  clear hW0
  go_wp2_with fail
  go_step3
  go_wp2_with (at_builtin; go_must (refine wpList_append_nil rfl _ _ 27 rfl 9 i0 (.string ByteArray.empty) 1 16 Tryz.underlying27 hi0 hz0 hz1 hz2 rfl (by decide) rfl a0 n0 c0 rfl (strs argv) HN1.out HN2.out HN3.out HN4.out HN5.out HN6.out ?_; intro v2 w2 hown hgrow; have HO := hid hown; have HG := hid ((Below.refl _ W0).grown hgrow (Nat.le_refl _) (fun k hk => by cases hk)); clear hown hgrow))
  go_step3
  go_wp2_with fail
  go_loopw [2, 10, 12] (fun s2 s10 s12 wr => ∃ (k : Nat) (q : BL) (out : List BL), k ≤ 4 ∧ s2 = .string (ba q) ∧ s12 = .int .i64 k ∧ OwnS wr W0.heap.size s10 out ∧ Below W0.heap.size W0 wr ∧ q.length ≤ 1000000 ∧ out.length ≤ 900000 + 3 * k ∧ (∀ x ∈ out, x.length ≤ 1000000) ∧ chainL t.L c (4 - k) q out = chainL t.L c 4 p argv) (fun _ _ s12 _ => 4 - (intOf s12).toNat)
  case atStart => exact ⟨0, p, argv, by omega, rfl, rfl, ownS_of HO.out rfl, HG.out, HPL.out, by omega, HSM.out, rfl⟩
  case round =>
    obtain ⟨k, q, out, hk, rfl, rfl, hown, hbw, hq, hol, hos, hch⟩ := hrel
    have HOWN := hid hown
    have HBW := hid hbw
    have HQ := hid hq
    have HOS := hid hos
    have HCH := hid hch
    have HWW := hid (bthen HW0.out hbw)
    obtain ⟨oa, oc, rfl, hocel, honil, hoc, hocm, hobl⟩ := own_cel2 hown
    have HOC := hid hocel
    have HB0 := hid (HX.out.below hbw HX.out.lt)
    obtain ⟨y0, y1, y2, y3, y4⟩ := HB0.out.five
    have l2 := HB0.out.lt
    have HPR := hid (HPROG.out q hq wr hbw)
    unfold CR.v at HPR
    clear hown hbw hq hos hch hocel honil hobl hocm
    cases hP : progL t.L c q with
    | mk ino er =>
      rw [hP] at HPR
      have HP := hid hP
      clear hP
      simp only at HPR
      by_cases he : er = 0
      · subst he
        obtain ⟨nx, hnx, rfl, hkind⟩ := HIN.out q ino HP.out
        have HNX := hid hnx
        have HK := hid hkind
        have HDL := hid ((HF.out.fine.data nx hnx).1)
        clear hnx hkind
        go_wp2_with fail
        refine (HPR.out).mono ?_
        rintro e' w3 ⟨rfl, hb3⟩
        have HB3 := hid (HBW.out.trans (hb3.mono HBW.out.size))
        have HO3 := hid (own_below HOWN.out hb3)
        have HC3 := hid (HOC.out.below' hb3)
        clear hb3 y0 y1 y2 y3 y4 l2 HPR
        have HRD := hid (read_file F t nx 0 65536 w3 (HF.out.below HB3.out) HNX.out (by show ¬ (t.L.getD nx default).kind = 2; rw [HK.out]; decide) (by show ¬ (t.L.getD nx default).kind = 3; rw [HK.out]; decide) (by decide) (by decide))
        rw [show rdB (t.nd nx).data 0 65536 = (t.L.getD nx default).data from rdB_all HDL.out] at HRD
        generalize hD : (t.L.getD nx default).data = D at *
        have HD := hid hD
        clear hD
        go_wp2_with fail
        refine (HRD.out).mono ?_
        rintro e' w4 ⟨v4, rfl, ho4, hb4⟩
        have HB4 := hid (HB3.out.trans (hb4.mono HB3.out.size))
        have HO4 := hid (own_below HO3.out hb4)
        have HC4 := hid (HC3.out.below' hb4)
        obtain ⟨da, dc, rfl, hdc, _, hdle, _, _⟩ := own_cel2 ho4
        have HPA := hid (parse_any da D.length dc D w4 (cel_bytU hdc) hdle (by have := HDL.out; omega))
        clear ho4 hb4 hdc HRD
        have HSMALL := hid (parL_small D)
        cases hpar : parL D with
        | mk x r1 =>
          obtain ⟨arg, is, pe⟩ := r1
          have HPAR := hid hpar
          have HPARD := hid (show parL (t.L.getD (((nx : Nat) : Int)).toNat default).data = (x, arg, is, pe) by rw [Int.toNat_natCast, HD.out, hpar])
          unfold ParPost parV at HPA
          rw [hpar] at HPA HSMALL
          simp only at HPA HSMALL
          clear hpar
          go_wp2_with fail
          refine (HPA.out).mono ?_
          rintro e' w5 ⟨rfl, hb5⟩
          have HB5 := hid (HB4.out.trans (hb5.mono HB4.out.size))
          have HO5 := hid (own_below HO4.out hb5)
          have HC5 := hid (HC4.out.below' hb5)
          have HWW5 := hid (bthen HW0.out HB5.out)
          clear hb5 HPA
          by_cases hpe : pe = 0
          · subst hpe
            cases is
            · have HCK := hid (checkE_any oa out.length oc out w5 HC5.out (by omega) (fun z hz => by have := HOS.out z hz; omega))
              by_cases hck : chkL out = 0
              · rw [hck] at HCK
                have HF9 := hid (HCH.out.symm.trans (chainL_ok (n := 4 - k) HP.out HPARD.out hck))
                clear hck
                go_wp2_with fail
                refine (HCK.out).mono ?_
                rintro e' w6 ⟨rfl, rfl⟩
                go_wp2_with fail
                try simp only [Exit.inBlock, Exit.then, Exit.noGoto_ret]
                refine bodyPost_ret (results_tmp4 rfl _ _ _) rfl ?_
                exact chain_ret HF9.out rfl (own_from HO5.out HW0.out.size) HWW5.out
              · have HF9 := hid (HCH.out.symm.trans (chainL_chk (n := 4 - k) HP.out HPARD.out hck))
                have hne : (chkL out != 0) = true := by simpa using hck
                generalize chkL out = ck at *
                clear hck
                go_wp2_with fail
                refine (HCK.out).mono ?_
                rintro e' w6 ⟨rfl, rfl⟩
                go_wp2_with fail
                try simp only [Exit.inBlock, Exit.then, Exit.noGoto_ret]
                refine bodyPost_ret (results_tmp4 rfl _ _ _) rfl ?_
                exact chain_ret HF9.out rfl (own_nil3 _ _) HWW5.out
            · by_cases hk4 : k = 4
              · subst hk4
                have HF9 := hid (HCH.out.symm.trans (chainL_loop HP.out HPARD.out))
                go_wp2_with fail
                try simp only [Exit.inBlock, Exit.then, Exit.noGoto_ret]
                refine bodyPost_ret (results_tmp4 rfl _ _ _) rfl ?_
                exact chain_ret HF9.out rfl (own_nil3 _ _) HWW5.out
              · have d4 : ((k : Int) == 4) = false := by rw [beq_eq_false_iff_ne]; omega
                have HF9 := hid ((show chainL t.L c (4 - k) q out = chainL t.L c (4 - (k + 1)) x (argvL x arg q out) by
                  rw [show 4 - k = (4 - (k + 1)) + 1 by omega]
                  exact chainL_next HP.out HPARD.out).symm.trans HCH.out)
                have HAR := hid (argv_any x arg q oa out.length oc out w5 HC5.out hoc (by omega))
                have HAM := hid (argvL_mem (i := x) (a := arg) (p := q) (l := out) (N := 1000000) (by have := HSMALL.out.1; omega) (by have := HSMALL.out.2; omega) HQ.out HOS.out)
                have HAL := hid (show (argvL x arg q out).length ≤ 900000 + 3 * (k + 1) by have := argvL_len x arg q out; omega)
                have HXL := hid (show x.length ≤ 1000000 by have := HSMALL.out.1; omega)
                generalize argvL x arg q out = nout at *
                have HK4 := hid (show k + 1 ≤ 4 by omega)
                clear hk4
                go_wp2_with fail
                refine (HAR.out).mono ?_
                rintro e' w6 ⟨v6, rfl, ho6, hb6⟩
                have HB6 := hid (HB5.out.trans (hb6.mono HB5.out.size))
                have HO6 := hid (own_from ho6 HB5.out.size)
                clear ho6 hb6 HAR
                go_wp2_with fail
                go_roundw
                case rel => exact ⟨k + 1, x, nout, HK4.out, rfl, by go_num, HO6.out, HB6.out, HXL.out, HAL.out, HAM.out, HF9.out⟩
                case measure => have := HK4.out; simp [intOf]; omega
          · have HF9 := hid (HCH.out.symm.trans (chainL_par (n := 4 - k) HP.out HPARD.out hpe))
            have hne : (pe != 0) = true := by simpa using hpe
            clear hpe
            go_wp2_with fail
            try simp only [Exit.inBlock, Exit.then, Exit.noGoto_ret]
            refine bodyPost_ret (results_tmp4 rfl _ _ _) rfl ?_
            exact chain_ret HF9.out rfl (own_nil3 _ _) HWW5.out
      · have hne : (er != 0) = true := by simpa using he
        have HF9 := hid (HCH.out.symm.trans (chainL_bad (n := 4 - k) HP.out he))
        clear he
        go_wp2_with fail
        refine (HPR.out).mono ?_
        rintro e' w3 ⟨rfl, hb3⟩
        have HWW3 := hid (bthen HWW.out hb3)
        clear hb3 y0 y1 y2 y3 y4 l2 HPR
        go_wp2_with fail
        try simp only [Exit.inBlock, Exit.then, Exit.noGoto_ret]
        refine bodyPost_ret (results_tmp4 rfl _ _ _) rfl ?_
        exact chain_ret HF9.out rfl (own_nil3 _ _) HWW3.out
end Go.Proofs.YthamfhenadaapaaGreatDoor
