
/- Read, the program's and the reference's. -/
import Derived.Test.YthamfhenadaapaaGreatDoorG61
import Derived.Test.YthamfhenadaapaaGreatDoorKN
import Derived.Test.YthamfhenadaapaaGreatDoorKT
namespace Go.Proofs.YthamfhenadaapaaGreatDoor
open Go.ChangeShapes Go.WideShapes Go.ChangeAt Go.RowKit Go.Sort
attribute [local go_sem] Oper.semAt_some

def readL (L : List ND) (ino off n : Int) : BL × Int :=
  if ¬ (0 ≤ ino ∧ ino < (L.length : Int)) then ([], 3) else
  if (L.getD ino.toNat default).kind = 2 then ([], 9) else
  if (L.getD ino.toNat default).kind = 3 ∨ off < 0 ∨ n < 0 then ([], 1) else (rdB (L.getD ino.toNat default).data off n, 0)
/-- What Read gives back. -/
def RdPost (w : World) (r : BL × Int) (e : Ending) (w' : World) : Prop := ∃ v, e = .returned (.tuple #[v, .int .i64 r.2]) ∧ w'.ownsRow w.heap.size 5 1 v r.1.length (r.1.map B8) ∧ Below w.heap.size w w'
theorem own_nilB (w : World) (B : Nat) : w.ownsRow B 5 1 (.slice none 0 0) ([] : BL).length (([] : BL).map B8) := ⟨rfl, .inl ⟨rfl, rfl⟩⟩
theorem readL_out {L : List ND} {ino off n : Int} (h : ¬ (0 ≤ ino ∧ ino < (L.length : Int))) : readL L ino off n = ([], 3) := by unfold readL; rw [if_pos h]
theorem readL_dir {L : List ND} {i : Nat} {off n : Int} (h : i < L.length) (h2 : (L.getD i default).kind = 2) : readL L i off n = ([], 9) := by
  unfold readL
  rw [if_neg (by omega), Int.toNat_natCast, if_pos h2]
theorem readL_bad {L : List ND} {i : Nat} {off n : Int} (h : i < L.length) (h2 : ¬ (L.getD i default).kind = 2) (h3 : (L.getD i default).kind = 3 ∨ off < 0 ∨ n < 0) : readL L i off n = ([], 1) := by
  unfold readL
  rw [if_neg (by omega), Int.toNat_natCast, if_neg h2, if_pos h3]
theorem readL_in {L : List ND} {i : Nat} {off n : Int} (h : i < L.length) (h2 : ¬ (L.getD i default).kind = 2) (h3 : ¬ ((L.getD i default).kind = 3 ∨ off < 0 ∨ n < 0)) : readL L i off n = (rdB (L.getD i default).data off n, 0) := by
  unfold readL
  rw [if_neg (by omega), Int.toNat_natCast, if_neg h2, if_neg h3]

set_option maxRecDepth 100000 in
set_option maxHeartbeats 4000000 in
theorem read_any (F : Nat) (t : FT) (ino off n : Int) (w : World) (h : FSat w F t) :
    Calls Tryz.prog 22 #[.pointer (some ⟨F, 0, none⟩), .int .i64 ino, .int .i64 off, .int .i64 n] w (RdPost w (readL t.L ino off n)) := by
  by_cases hin : 0 ≤ ino ∧ ino < (t.L.length : Int)
  · obtain ⟨i, rfl⟩ := Int.eq_ofNat_of_zero_le hin.1
    have hi : i < t.L.length := by omega
    by_cases h2 : (t.nd i).kind = 2
    · rw [readL_dir hi h2]
      have HN := hid (node_in F t i w h hi)
      rw [if_pos h2] at HN
      have hid9 := isDir_any (t.nd i).kind (t.bk i) w
      rw [ndV_kind, if_pos h2, decide_eq_true h2] at hid9
      have HID := hid hid9
      clear hid9 h2 h
      go_enter Tryz.func22, Tryz.ntmps22
      go_wp2_with fail
      refine (HN.out).mono ?_
      rintro e' w1 ⟨rfl, rfl⟩
      go_wp2_with fail
      refine (HID.out).mono ?_
      rintro e' w1 ⟨rfl, rfl⟩
      go_wp2_with fail
      go_ret2
      exact ⟨_, rfl, own_nilB _ _, Below.refl _ _⟩
    · by_cases h3 : (t.nd i).kind = 3
      · rw [readL_bad hi h2 (.inl h3)]
        have HN := hid (node_in F t i w h hi)
        rw [if_neg h2, if_pos h3] at HN
        have hid9 := isDir_any (t.nd i).kind (t.bk i) w
        rw [ndV_kind, if_neg h2, if_pos h3, decide_eq_false h2] at hid9
        have HID := hid hid9
        have hta := ta_fl (t.bk i)
        clear hid9 h2 h3 h
        go_enter Tryz.func22, Tryz.ntmps22
        go_wp2_with fail
        refine (HN.out).mono ?_
        rintro e' w1 ⟨rfl, rfl⟩
        go_wp2_with fail
        refine (HID.out).mono ?_
        rintro e' w1 ⟨rfl, rfl⟩
        go_wp2_with fail
        go_ret2
        exact ⟨_, rfl, own_nilB _ _, Below.refl _ _⟩
      · by_cases h4 : off < 0 ∨ n < 0
        · rw [readL_bad hi h2 (.inr h4)]
          have HN := hid (node_in F t i w h hi)
          rw [if_neg h2, if_neg h3] at HN
          have hid9 := isDir_any (t.nd i).kind (t.bk i) w
          rw [ndV_kind, if_neg h2, if_neg h3, decide_eq_false h2] at hid9
          have HID := hid hid9
          have hta := ta_ff (t.bk i)
          clear hid9 h2 h3 h
          by_cases h5 : off < 0
          · have d0 : decide (off < 0) = true := by simpa using h5
            clear h4
            go_enter Tryz.func22, Tryz.ntmps22
            go_wp2_with fail
            refine (HN.out).mono ?_
            rintro e' w1 ⟨rfl, rfl⟩
            go_wp2_with fail
            refine (HID.out).mono ?_
            rintro e' w1 ⟨rfl, rfl⟩
            go_wp2_with fail
            go_ret2
            exact ⟨_, rfl, own_nilB _ _, Below.refl _ _⟩
          · have d0 : decide (off < 0) = false := by simpa using h5
            have d1 : decide (n < 0) = true := by simp; omega
            clear h4
            go_enter Tryz.func22, Tryz.ntmps22
            go_wp2_with fail
            refine (HN.out).mono ?_
            rintro e' w1 ⟨rfl, rfl⟩
            go_wp2_with fail
            refine (HID.out).mono ?_
            rintro e' w1 ⟨rfl, rfl⟩
            go_wp2_with fail
            go_ret2
            exact ⟨_, rfl, own_nilB _ _, Below.refl _ _⟩
        · rw [readL_in hi h2 (by rintro (h | h); exact h3 h; exact h4 h)]
          refine (read_file F t i off n w h hi h2 h3 (by omega) (by omega)).mono ?_
          rintro e w' ⟨v, rfl, h7, h8⟩
          exact ⟨v, rfl, h7, h8⟩
  · rw [readL_out hin]
    have HN := hid (node_out F t ino w h hin)
    clear h
    go_enter Tryz.func22, Tryz.ntmps22
    go_wp2_with fail
    refine (HN.out).mono ?_
    rintro e' w1 ⟨rfl, rfl⟩
    go_wp2_with fail
    go_ret2
    exact ⟨_, rfl, own_nilB _ _, Below.refl _ _⟩

theorem byt_cel {w : World} {a : Option Addr} {n : Nat} {l : BL} (h : Byt w a n l) : Cel w a n (l.map B8) :=
  ⟨by rw [List.length_map]; exact h.hlen, fun i hi => by
    obtain ⟨b, o, e, hc⟩ := h.cell i (by simpa using hi)
    exact ⟨b, o, e, by rw [hc]; simp [B8]⟩⟩
theorem cel_byt {w : World} {a : Option Addr} {n : Nat} {l : BL} (h : Cel w a n (l.map B8)) : Byt w a n l :=
  ⟨by have := h.hlen; rwa [List.length_map] at this, fun i hi => by
    obtain ⟨b, o, e, hc⟩ := h.cell i (by simpa using hi)
    exact ⟨b, o, e, by rw [hc]; simp [B8]⟩⟩
theorem newB_own {w w' : World} {v : Value} {l : BL} {B : Nat} (h : NewB w w' v l) (hl : l.length ≤ 1000000) (hB : B ≤ w.heap.size) : w'.ownsRow B 5 1 v l.length (l.map B8) := by
  rcases h with ⟨rfl, rfl⟩ | ⟨_, rfl, hr⟩
  · exact own_nilB _ _
  · exact ⟨by simp, .inr ⟨w.heap.size, l.length, (l.map B8).toArray, rfl, hB, hr.heap, Nat.le_refl _, by unfold maxLen; omega, by simp, List.take_of_length_le (by simp)⟩⟩
theorem rdB_past {l : BL} {off n : Int} (h : (l.length : Int) ≤ off) : rdB l off n = [] := by
  unfold rdB
  rw [List.drop_eq_nil_of_le (by omega), List.take_nil]

set_option maxRecDepth 100000 in
set_option maxHeartbeats 4000000 in
theorem rread_any (G : Nat) (L : List ND) (d : Nat → Option Addr × Nat) (ino off n : Int) (w : World) (h : RF w G L d) :
    Calls Tryz.prog 29 #[.pointer (some ⟨G, 0, none⟩), .int .i64 ino, .int .i64 off, .int .i64 n] w (RdPost w (readL L ino off n)) := by
  have HBA := hid (fun (w1 : World) (hb : Below w.heap.size w w1) (o : Obj) => hb.alloc hb.size o)
  by_cases hin : 0 ≤ ino ∧ ino < (L.length : Int)
  · obtain ⟨i, rfl⟩ := Int.eq_ofNat_of_zero_le hin.1
    have hi : i < L.length := by omega
    have HM := hid (rmeta_in G L d i w h hi)
    have hmost := h.fine.most
    have hdat := (h.fine.data i hi).1
    obtain ⟨hB, hBn, hBc⟩ := h.data i hi
    obtain ⟨b, o, c, x0, hG, hb, hat⟩ := h.at
    obtain ⟨⟨g0, g1, g2, g3, g4⟩, g5, g6, g7, g8⟩ := hat i hi
    have HX0 := hid x0
    have HG7 := hid g7
    have HBY := hid hB
    clear hat g0 g1 g2 g3 g4 g5 g6 g8 g7 x0 hB h
    by_cases h2 : (L.getD i default).kind = 2
    · rw [readL_dir hi h2]
      generalize L.getD i default = x at *
      have d2 : (x.kind == 2) = true := by simp [h2]
      go_enter Tryz.func29, Tryz.ntmps29
      go_wp2_with fail
      refine (HM.out).mono ?_
      rintro e' w1 ⟨rfl, hb1⟩
      have HB1 := hid (HBA.out w1 hb1)
      unfold metaV
      go_wp2_with fail
      go_ret2
      exact ⟨_, rfl, own_nilB _ _, HB1.out _⟩
    · have d2 : ((L.getD i default).kind == 2) = false := beq_eq_false_iff_ne.2 h2
      by_cases h4 : (L.getD i default).kind = 3 ∨ off < 0 ∨ n < 0
      · rw [readL_bad hi h2 h4]
        generalize L.getD i default = x at *
        by_cases h3 : x.kind = 3
        · have d3 : (x.kind == 3) = true := by simp [h3]
          clear h2 h4
          go_enter Tryz.func29, Tryz.ntmps29
          go_wp2_with fail
          refine (HM.out).mono ?_
          rintro e' w1 ⟨rfl, hb1⟩
          have HB1 := hid (HBA.out w1 hb1)
          unfold metaV
          go_wp2_with fail
          go_ret2
          exact ⟨_, rfl, own_nilB _ _, HB1.out _⟩
        · have d3 : (x.kind == 3) = false := by simp [h3]
          by_cases h5 : off < 0
          · have d5 : decide (off < 0) = true := by simpa using h5
            clear h2 h4 h3
            go_enter Tryz.func29, Tryz.ntmps29
            go_wp2_with fail
            refine (HM.out).mono ?_
            rintro e' w1 ⟨rfl, hb1⟩
            have HB1 := hid (HBA.out w1 hb1)
            unfold metaV
            go_wp2_with fail
            go_ret2
            exact ⟨_, rfl, own_nilB _ _, HB1.out _⟩
          · have d5 : decide (off < 0) = false := by simpa using h5
            have d6 : decide (n < 0) = true := by simp; omega
            clear h2 h4 h3
            go_enter Tryz.func29, Tryz.ntmps29
            go_wp2_with fail
            refine (HM.out).mono ?_
            rintro e' w1 ⟨rfl, hb1⟩
            have HB1 := hid (HBA.out w1 hb1)
            unfold metaV
            go_wp2_with fail
            go_ret2
            exact ⟨_, rfl, own_nilB _ _, HB1.out _⟩
      · rw [readL_in hi h2 h4]
        generalize L.getD i default = x at *
        have d3 : (x.kind == 3) = false := by simp; omega
        have d5 : decide (off < 0) = false := by simp; omega
        have d6 : decide (n < 0) = false := by simp; omega
        have d1 : decide ((i : Int) < (L.length : Int)) = true := by simp; omega
        have d1n : decide (i < L.length) = true := by simp; omega
        obtain ⟨f, rfl⟩ := Int.eq_ofNat_of_zero_le (show 0 ≤ off by omega)
        obtain ⟨m, rfl⟩ := Int.eq_ofNat_of_zero_le (show 0 ≤ n by omega)
        clear h2 h4
        generalize d i = dq at *
        obtain ⟨dp, dc⟩ := dq
        simp only at HG7 HBY hBn hBc
        by_cases hf : x.data.length ≤ f
        · have d7 : decide ((x.data.length : Int) ≤ (f : Int)) = true := by simp; omega
          have d7n : decide (x.data.length ≤ f) = true := by simp; omega
          rw [rdB_past (by omega)]
          go_enter Tryz.func29, Tryz.ntmps29
          go_wp2_with fail
          refine (HM.out).mono ?_
          rintro e' w1 ⟨rfl, hb1⟩
          have HB1 := hid (HBA.out w1 hb1)
          have x0 := keepC hb1 HX0.out
          have g7 := keepC hb1 HG7.out
          have l0 := World.block_lt_of_cell? _ _ x0
          have l7 := World.block_lt_of_cell? _ _ g7
          dsimp only at l0 l7
          unfold metaV
          go_wp2_with fail
          go_ret2
          exact ⟨_, rfl, own_nilB _ _, HB1.out _⟩
        · have d7 : decide ((x.data.length : Int) ≤ (f : Int)) = false := by simp; omega
          have d7n : decide (x.data.length ≤ f) = false := by simp; omega
          obtain ⟨a2, hs1, ha2, hcel2⟩ := from_slice dp x.data.length dc f (f : Int) rfl (by omega) hBc
          have HCE := hid (fun (wx : World) (hc : Byt wx dp x.data.length x.data) => hcel2 wx _ (byt_cel hc))
          clear hcel2 ha2
          by_cases hm : m < x.data.length - f
          · have d8 : decide ((m : Int) < ((x.data.length - f : Nat) : Int)) = true := by simp; omega
            have d8n : decide (m < x.data.length - f) = true := by simp; omega
            have hs2 := to_slice a2 (x.data.length - f) (dc - f) m (m : Int) rfl (by omega) (by omega)
            have HCP := hid (fun (wx : World) (hc : Byt wx dp x.data.length x.data) => show Calls Tryz.prog 17 #[.slice a2 m (dc - f)] wx (fun e w' => ∃ v, e = .returned v ∧ NewB wx w' v (rdB x.data f m) ∧ Below wx.heap.size wx w') from by
              have h9 := (HCE.out wx hc).prefix (n := m) (by omega)
              rw [← List.map_drop, ← List.map_take] at h9
              exact cpb_any a2 m (dc - f) _ wx (cel_byt h9) (by omega))
            have HLN := hid (show (rdB x.data f m).length ≤ 1000000 by unfold rdB; simp; omega)
            clear HCE
            generalize rdB x.data f m = R at *
            generalize x.data.length - f = Lf at *
            go_enter Tryz.func29, Tryz.ntmps29
            go_wp2_with fail
            refine (HM.out).mono ?_
            rintro e' w1 ⟨rfl, hb1⟩
            have HB1 := hid (HBA.out w1 hb1)
            have HY1 := hid (fun (ob : Obj) => HBY.out.below' (show Below w.heap.size w (w1.alloc ob) from HB1.out ob))
            have x0 := keepC hb1 HX0.out
            have g7 := keepC hb1 HG7.out
            have l0 := World.block_lt_of_cell? _ _ x0
            have l7 := World.block_lt_of_cell? _ _ g7
            dsimp only at l0 l7
            unfold metaV
            go_wp2_with fail
            refine (HCP.out _ (HY1.out _)).mono ?_
            rintro e' w2 ⟨v, rfl, hv, hb2⟩
            have HO := hid (newB_own hv HLN.out (show w.heap.size ≤ _ from (HB1.out _).size))
            have HB2 := hid (bthen (HB1.out _) hb2)
            clear hv hb2
            go_wp2_with fail
            go_ret2
            exact ⟨_, rfl, HO.out, HB2.out⟩
          · have d8 : decide ((m : Int) < ((x.data.length - f : Nat) : Int)) = false := by simp; omega
            have d8n : decide (m < x.data.length - f) = false := by simp; omega
            have HCP := hid (fun (wx : World) (hc : Byt wx dp x.data.length x.data) => show Calls Tryz.prog 17 #[.slice a2 (x.data.length - f) (dc - f)] wx (fun e w' => ∃ v, e = .returned v ∧ NewB wx w' v (rdB x.data f m) ∧ Below wx.heap.size wx w') from by
              have h9 := HCE.out wx hc
              rw [← List.map_drop] at h9
              have e9 : rdB x.data f m = x.data.drop f := by unfold rdB; rw [Int.toNat_natCast, Int.toNat_natCast, List.take_of_length_le (by simp; omega)]
              rw [e9]
              exact cpb_any a2 _ (dc - f) _ wx (cel_byt h9) (by omega))
            have HLN := hid (show (rdB x.data f m).length ≤ 1000000 by unfold rdB; simp; omega)
            clear HCE
            generalize rdB x.data f m = R at *
            generalize x.data.length - f = Lf at *
            go_enter Tryz.func29, Tryz.ntmps29
            go_wp2_with fail
            refine (HM.out).mono ?_
            rintro e' w1 ⟨rfl, hb1⟩
            have HB1 := hid (HBA.out w1 hb1)
            have HY1 := hid (fun (ob : Obj) => HBY.out.below' (show Below w.heap.size w (w1.alloc ob) from HB1.out ob))
            have x0 := keepC hb1 HX0.out
            have g7 := keepC hb1 HG7.out
            have l0 := World.block_lt_of_cell? _ _ x0
            have l7 := World.block_lt_of_cell? _ _ g7
            dsimp only at l0 l7
            unfold metaV
            go_wp2_with fail
            refine (HCP.out _ (HY1.out _)).mono ?_
            rintro e' w2 ⟨v, rfl, hv, hb2⟩
            have HO := hid (newB_own hv HLN.out (show w.heap.size ≤ _ from (HB1.out _).size))
            have HB2 := hid (bthen (HB1.out _) hb2)
            clear hv hb2
            go_wp2_with fail
            go_ret2
            exact ⟨_, rfl, HO.out, HB2.out⟩
  · rw [readL_out hin]
    have HM := hid (rmeta_out G L d ino w h hin)
    clear h
    go_enter Tryz.func29, Tryz.ntmps29
    go_wp2_with fail
    refine (HM.out).mono ?_
    rintro e' w1 ⟨rfl, hb1⟩
    have HB1 := hid (HBA.out w1 hb1)
    go_wp2_with fail
    go_ret2
    exact ⟨_, rfl, own_nilB _ _, HB1.out _⟩
end Go.Proofs.YthamfhenadaapaaGreatDoor
