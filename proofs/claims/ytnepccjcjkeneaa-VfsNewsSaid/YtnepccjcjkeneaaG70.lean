
/- Meta and Path at every number; VfsNews: the walk. -/
import Derived.Test.YtnepccjcjkeneaaG69
import Derived.Test.YtnepccjcjkeneaaG67
namespace Go.Proofs.Ytnepccjcjkeneaa
open Go.ChangeShapes Go.WideShapes Go.ChangeAt Go.RowKit Go.Sort
attribute [local go_sem] Oper.semAt_some

def ndAt (L : List ND) (i : Int) : ND := if 0 ≤ i ∧ i < (L.length : Int) then L.getD i.toNat default else default
def errAt (L : List ND) (i : Int) : Int := if 0 ≤ i ∧ i < (L.length : Int) then 0 else 3
theorem ndAt_in {L : List ND} {i : Nat} (h : i < L.length) : ndAt L (i : Int) = L.getD i default := by unfold ndAt; rw [if_pos (by omega), Int.toNat_natCast]
theorem errAt_in {L : List ND} {i : Nat} (h : i < L.length) : errAt L (i : Int) = 0 := by unfold errAt; rw [if_pos (by omega)]
theorem ndAt_out {L : List ND} {i : Int} (h : ¬ (0 ≤ i ∧ i < (L.length : Int))) : ndAt L i = default := by unfold ndAt; rw [if_neg h]
theorem errAt_out {L : List ND} {i : Int} (h : ¬ (0 ≤ i ∧ i < (L.length : Int))) : errAt L i = 3 := by unfold errAt; rw [if_neg h]
theorem readL_len {L : List ND} (hf : Fine L) (ino off n : Int) : (readL L ino off n).1.length ≤ 1000000 := by
  unfold readL
  split
  · simp
  · rename_i h
    split
    · simp
    · split
      · simp
      · have := (hf.data ino.toNat (by omega)).1
        generalize L.getD ino.toNat default = x at *
        unfold rdB
        simp
        omega

set_option maxRecDepth 100000 in
set_option maxHeartbeats 1000000 in
theorem meta6_any (F : Nat) (t : FT) (i : Int) (w : World) (h : FSat w F t) :
    Calls Try.prog 12 #[.pointer (some ⟨F, 0, none⟩), .int .i64 i] w fun e w' => e = .returned (.tuple #[metaV (ndAt t.L i), .int .i64 (errAt t.L i)]) ∧ Below w.heap.size w w' := by
  by_cases hin : 0 ≤ i ∧ i < (t.L.length : Int)
  · obtain ⟨k, rfl⟩ := Int.eq_ofNat_of_zero_le hin.1
    rw [ndAt_in (by omega), errAt_in (by omega)]
    exact meta_any F t k w h (by omega)
  · rw [ndAt_out hin, errAt_out hin]
    have HB0 := hid (@bal w)
    have HN := hid (node_out F t i _ (h.below (HB0.out (.cells #[.int .u8 0, .int .u16 0, .int .u32 0, .int .u32 0, .int .i64 0] 32))) hin)
    clear h
    go_enter Try.func12, Try.ntmps12
    go_wp2_with fail
    refine (HN.out).mono ?_
    rintro e' w1 ⟨rfl, rfl⟩
    go_wp2_with fail
    refine bodyPost_ret (v := .tuple #[.agg #[.int .u8 0, .int .u16 0, .int .u32 0, .int .u32 0, .int .i64 0], .int .i64 3]) (by simp [results, Try.f12, go_sem]) rfl ⟨rfl, ?_⟩
    first | exact HB0.out _ | (repeat (first | with_reducible refine bset ?_ (by omega) _)); exact HB0.out _
set_option maxRecDepth 100000 in
set_option maxHeartbeats 1000000 in
theorem path6_any (F : Nat) (t : FT) (i : Int) (w : World) (h : FSat w F t) :
    Calls Try.prog 17 #[.pointer (some ⟨F, 0, none⟩), .int .i64 i] w fun e w' => e = .returned (.string (ba (ndAt t.L i).path)) ∧ w = w' := by
  by_cases hin : 0 ≤ i ∧ i < (t.L.length : Int)
  · obtain ⟨k, rfl⟩ := Int.eq_ofNat_of_zero_le hin.1
    rw [ndAt_in (by omega)]
    exact path_any F t k w h (by omega)
  · rw [ndAt_out hin]
    have HN := hid (node_out F t i w h hin)
    clear h
    go_enter Try.func17, Try.ntmps17
    go_wp2_with fail
    refine (HN.out).mono ?_
    rintro e' w1 ⟨rfl, rfl⟩
    go_wp2_with fail
    go_ret
    exact ⟨rfl, rfl⟩
theorem rmeta6_any (G : Nat) (L : List ND) (d : Nat → Option Addr × Nat) (i : Int) (w : World) (h : RF w G L d) :
    Calls Try.prog 13 #[.pointer (some ⟨G, 0, none⟩), .int .i64 i] w fun e w' => e = .returned (.tuple #[metaV (ndAt L i), .int .i64 (errAt L i)]) ∧ Below w.heap.size w w' := by
  by_cases hin : 0 ≤ i ∧ i < (L.length : Int)
  · obtain ⟨k, rfl⟩ := Int.eq_ofNat_of_zero_le hin.1
    rw [ndAt_in (by omega), errAt_in (by omega)]
    exact rmeta_in G L d k w h (by omega)
  · rw [ndAt_out hin, errAt_out hin]
    exact rmeta_out G L d i w h hin
theorem rpath6_any (G : Nat) (L : List ND) (d : Nat → Option Addr × Nat) (i : Int) (w : World) (h : RF w G L d) :
    Calls Try.prog 18 #[.pointer (some ⟨G, 0, none⟩), .int .i64 i] w fun e w' => e = .returned (.string (ba (ndAt L i).path)) ∧ w = w' := by
  by_cases hin : 0 ≤ i ∧ i < (L.length : Int)
  · obtain ⟨k, rfl⟩ := Int.eq_ofNat_of_zero_le hin.1
    rw [ndAt_in (by omega)]
    exact rpath_in G L d k w h (by omega)
  · rw [ndAt_out hin]
    exact rpath_out G L d i w h hin

set_option maxRecDepth 100000 in
set_option maxHeartbeats 8000000 in
theorem vfsNews_walk (a : Option Addr) (cp : Nat) (xs : List EN) (more : Int) (w : World) (hX : EntsIn w a xs.length xs) (hxl : xs.length ≤ 140737488351232) :
    Calls Try.prog 3 #[.slice a xs.length cp, .int .i64 more] w fun e' w' => e' = .returned (.bool true) ∧ Below w.heap.size w w' := by
  have HX0 := hid hX
  clear hX
  go_enter Try.func3, Try.ntmps3
  go_wp2_with fail
  refine (largeE_any _ _ _ xs w HX0.out hxl).mono ?_
  rintro e' w1 ⟨b, rfl, hb, hsm⟩
  have HB1 := hid hb
  cases b
  · obtain ⟨hs1, hs2⟩ := hsm rfl
    have he := HX0.out.small hs2
    have HX1 := hid (he.below hb)
    have HS1 := hid hs1
    clear hsm hs1 hs2 he hb HX0
    go_wp2_with fail
    refine (made_any a cp xs w1 HX1.out (by have := HS1.out; omega)).mono ?_
    rintro e' w4 ⟨hb, hp⟩
    have HB4 := hid (bthen HB1.out hb)
    clear hb HX1 HB1
    split at hp
    · obtain ⟨F, t, G, d, rfl, htl, hfs, hrf⟩ := hp
      have HME := hid (fun (i : Int) (wr : World) (hs : Below w4.heap.size w4 wr) => meta6_any F t i wr (hfs.below hs))
      have HRM := hid (fun (i : Int) (wr : World) (hs : Below w4.heap.size w4 wr) => rmeta6_any G t.L d i wr (hrf.below hs))
      have HPA := hid (fun (i : Int) (wr : World) (hs : Below w4.heap.size w4 wr) => path6_any F t i wr (hfs.below hs))
      have HRP := hid (fun (i : Int) (wr : World) (hs : Below w4.heap.size w4 wr) => rpath6_any G t.L d i wr (hrf.below hs))
      have HRD := hid (fun (i off n : Int) (wr : World) (hs : Below w4.heap.size w4 wr) => read_any F t i off n wr (hfs.below hs))
      have HRR := hid (fun (i off n : Int) (wr : World) (hs : Below w4.heap.size w4 wr) => rread_any G t.L d i off n wr (hrf.below hs))
      have HRL := hid (fun (i off n : Int) => readL_len hfs.fine i off n)
      have HEQ := hid (fun (l : BL) (hl : l.length ≤ 1000000) (p q : Option Addr) (n m : Nat) (wx : World) (q1 : Cel wx p l.length (l.map B8)) (q2 : Cel wx q l.length (l.map B8)) => show Calls Try.prog 16 #[.slice p l.length n, .slice q l.length m] wx (fun e w' => e = .returned (.bool true) ∧ ∃ n, w' = wx.drewN n) from by
        have := eqBytes_any p q l.length n l.length m l l wx (cel_byt q1) (cel_byt q2) (by omega) (by omega)
        rwa [eqB_me] at this)
      clear hfs hrf htl
      generalize t.L = L at *
      have hlen := HS1.out
      go_wp2_with fail
      go_loopw [8] (fun i wr => ∃ k : Int, -1 ≤ k ∧ k ≤ xs.length + 2 ∧ i = .int .i64 k ∧ Below w4.heap.size w4 wr) (fun i _ => ((xs.length : Int) + 2 - intOf i).toNat)
      case atStart => exact ⟨-1, by omega, by omega, rfl, Below.refl _ _⟩
      case round =>
        obtain ⟨k, hk1, hk2, rfl, hbw⟩ := hrel
        have HBW := hid hbw
        clear hbw
        by_cases hlt : k ≤ (xs.length : Int) + 1
        · have d1 : decide (k ≤ (xs.length : Int) + 1) = true := by simpa using hlt
          have HM1 := hid (HME.out k)
          have HM2 := hid (HRM.out k)
          have HP1 := hid (HPA.out k)
          have HP2 := hid (HRP.out k)
          have HD1 := hid (HRD.out k 0 131072)
          have HD2 := hid (HRR.out k 0 131072)
          have HL1 := hid (HRL.out k 0 131072)
          generalize ndAt L k = x at *
          generalize errAt L k = er at *
          unfold RdPost at HD1 HD2
          generalize (readL L k 0 131072).1 = R at *
          generalize (readL L k 0 131072).2 = re at *
          go_wp2_with fail
          refine (HM1.out _ HBW.out).mono ?_
          rintro e' w5 ⟨rfl, hb⟩
          have HB5 := hid (bthen HBW.out hb)
          clear hb
          unfold metaV
          go_wp2_with fail
          obtain ⟨W5, hW5⟩ : ∃ W5, W5 = w5.alloc (.cells #[.int .u8 x.kind, .int .u16 x.mode, .int .u32 x.uid, .int .u32 x.gid, .int .i64 x.size] 32) := ⟨_, rfl⟩
          rw [← hW5]
          have HA5 := hid (show Below w4.heap.size w4 W5 from by rw [hW5]; exact HB5.out.alloc HB5.out.size _)
          have HRa := hid (show Row W5 w5.heap.size 32 [.int .u8 x.kind, .int .u16 x.mode, .int .u32 x.uid, .int .u32 x.gid, .int .i64 x.size] from by rw [hW5]; exact Row.new _ _ _)
          clear hW5 HB5
          generalize w5.heap.size = ga at *
          clear w5
          refine (HM2.out _ HA5.out).mono ?_
          rintro e' w6 ⟨rfl, hb⟩
          have HB6 := hid (bthen HA5.out hb)
          have HRa6 := hid (HRa.out.below hb HRa.out.lt)
          clear hb HRa HA5
          unfold metaV
          go_wp2_with fail
          obtain ⟨W6, hW6⟩ : ∃ W6, W6 = w6.alloc (.cells #[.int .u8 x.kind, .int .u16 x.mode, .int .u32 x.uid, .int .u32 x.gid, .int .i64 x.size] 32) := ⟨_, rfl⟩
          rw [← hW6]
          have HA6 := hid (show Below w4.heap.size w4 W6 from by rw [hW6]; exact HB6.out.alloc HB6.out.size _)
          have HRb := hid (show Row W6 w6.heap.size 32 [.int .u8 x.kind, .int .u16 x.mode, .int .u32 x.uid, .int .u32 x.gid, .int .i64 x.size] from by rw [hW6]; exact Row.new _ _ _)
          have HRc := hid (show Row W6 ga 32 [.int .u8 x.kind, .int .u16 x.mode, .int .u32 x.uid, .int .u32 x.gid, .int .i64 x.size] from by rw [hW6]; exact HRa6.out.alloc _)
          clear hW6 HB6 HRa6
          generalize w6.heap.size = gb at *
          clear w6
          refine (HD1.out _ HA6.out).mono ?_
          rintro e' w7 ⟨v, rfl, ho, hb⟩
          obtain ⟨pa, pc, rfl, hca, _⟩ := own_cel ho
          have HB7 := hid (bthen HA6.out hb)
          have HRb := hid (HRb.out.below hb HRb.out.lt)
          have HRc := hid (HRc.out.below hb HRc.out.lt)
          have HCA := hid hca
          clear ho hca hb HA6
          go_wp2_with fail
          refine (HD2.out _ HB7.out).mono ?_
          rintro e' w8 ⟨v, rfl, ho, hb⟩
          obtain ⟨qa, qc, rfl, hcb, _⟩ := own_cel ho
          have HB8 := hid (bthen HB7.out hb)
          have HRb := hid (HRb.out.below hb HRb.out.lt)
          have HRc := hid (HRc.out.below hb HRc.out.lt)
          have HCA := hid (HCA.out.below' hb)
          have HCB := hid hcb
          clear ho hcb hb HB7
          obtain ⟨x0, x1, x2, x3, x4⟩ := HRc.out.five
          obtain ⟨y0, y1, y2, y3, y4⟩ := HRb.out.five
          have l0 := HRc.out.lt
          have l1 := HRb.out.lt
          have hq := ba_beq2 x.path x.path
          have n1 : (x.kind == x.kind) = true := by simp
          have n2 : (x.mode == x.mode) = true := by simp
          have n3 : (x.uid == x.uid) = true := by simp
          have n4 : (x.gid == x.gid) = true := by simp
          have n5 : (x.size == x.size) = true := by simp
          have n6 : (er != er) = false := by simp
          have n7 : (re != re) = false := by simp
          go_wp2_with fail
          refine (HEQ.out R HL1.out pa qa pc qc w8 HCA.out HCB.out).mono ?_
          rintro e' w9 ⟨rfl, n, rfl⟩
          go_wp2_with fail
          refine (HP1.out _ (bdN HB8.out n)).mono ?_
          rintro e' w9 ⟨rfl, rfl⟩
          go_wp2_with fail
          refine (HP2.out _ (bdN HB8.out n)).mono ?_
          rintro e' w9 ⟨rfl, rfl⟩
          clear x0 x1 x2 x3 x4 y0 y1 y2 y3 y4 l0 l1
          go_wp2_with fail
          go_roundw
          case rel => exact ⟨k + 1, by omega, by omega, by go_num, bdN HB8.out n⟩
          case measure => simp [intOf]; omega
        · have d1 : decide (k ≤ (xs.length : Int) + 1) = false := by simpa using hlt
          have HM1 := hid (HME.out more)
          have HM2 := hid (HRM.out more)
          have HP1 := hid (HPA.out more)
          have HP2 := hid (HRP.out more)
          clear HME HRM HPA HRP HRD HRR HRL HEQ
          generalize ndAt L more = x at *
          generalize errAt L more = er at *
          go_wp2_with fail
          refine (HM1.out _ HBW.out).mono ?_
          rintro e' w5 ⟨rfl, hb⟩
          have HB5 := hid (bthen HBW.out hb)
          clear hb
          unfold metaV
          go_wp2_with fail
          obtain ⟨W5, hW5⟩ : ∃ W5, W5 = w5.alloc (.cells #[.int .u8 x.kind, .int .u16 x.mode, .int .u32 x.uid, .int .u32 x.gid, .int .i64 x.size] 32) := ⟨_, rfl⟩
          rw [← hW5]
          have HA5 := hid (show Below w4.heap.size w4 W5 from by rw [hW5]; exact HB5.out.alloc HB5.out.size _)
          clear hW5 HB5
          refine (HM2.out _ HA5.out).mono ?_
          rintro e' w6 ⟨rfl, hb⟩
          have HB6 := hid (bthen HA5.out hb)
          clear hb HA5
          unfold metaV
          go_wp2_with fail
          obtain ⟨W6, hW6⟩ : ∃ W6, W6 = w6.alloc (.cells #[.int .u8 x.kind, .int .u16 x.mode, .int .u32 x.uid, .int .u32 x.gid, .int .i64 x.size] 32) := ⟨_, rfl⟩
          try rw [← hW6]
          have HA6 := hid (show Below w4.heap.size w4 W6 from by rw [hW6]; exact HB6.out.alloc HB6.out.size _)
          clear hW6 HB6
          refine (HP1.out _ HA6.out).mono ?_
          rintro e' w9 ⟨rfl, rfl⟩
          have hq := ba_beq2 x.path x.path
          have n6 : (er == er) = true := by simp
          go_wp2_with fail
          refine (HP2.out _ HA6.out).mono ?_
          rintro e' w9 ⟨rfl, rfl⟩
          go_wp2_with fail
          refine (works06_any _).mono ?_
          rintro e' w7 ⟨rfl, hb⟩
          have HB7 := hid (bthen (bthen HB4.out HA6.out) hb)
          clear hb
          go_wp2_with fail
          go_ret
          exact ⟨rfl, HB7.out⟩
    · obtain rfl := hp
      go_wp2_with fail
      refine (works06_any _).mono ?_
      rintro e' w5 ⟨rfl, hb⟩
      have HB5 := hid (bthen HB4.out hb)
      clear hb
      go_wp2_with fail
      go_ret
      exact ⟨rfl, HB5.out⟩
  · clear hsm
    go_wp2_with fail
    refine (works06_any _).mono ?_
    rintro e' w3 ⟨rfl, hb2⟩
    have HB3 := hid (bthen HB1.out hb2)
    clear hb2
    go_wp2_with fail
    go_ret
    exact ⟨rfl, HB3.out⟩
end Go.Proofs.Ytnepccjcjkeneaa
