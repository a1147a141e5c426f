
/- vfs's reference in memory: child, at, dir, Meta, Path. -/
import Derived.Test.YthamfhenadaapaaGreatDoorG60
import Derived.Test.YthamfhenadaapaaGreatDoorP67
import Derived.Test.YthamfhenadaapaaGreatDoorKT
namespace Go.Proofs.YthamfhenadaapaaGreatDoor
open Go.RowKit Go.Sort

theorem cpb_cap (a : Option Addr) (len cap : Nat) (l : List UInt8) (w : World) (hB : Byt w a len l) (hl : len ≤ 140737488351232) :
    Calls Tryz.prog 17 #[.slice a len cap] w fun e w' => ∃ a' c', e = .returned (.slice a' l.length c') ∧ Byt w' a' l.length l ∧ ((a' = none → c' = 0) ∧ l.length ≤ c') ∧ (∀ b, a' = some b → w.heap.size ≤ b.block ∧ b.block < w'.heap.size) ∧ Below w.heap.size w w' := by
  refine (cpb_any a len cap l w hB hl).mono ?_
  rintro e w' ⟨v, rfl, hv, hb⟩
  rcases hv with ⟨rfl, rfl⟩ | ⟨_, rfl, hr⟩
  · exact ⟨none, 0, rfl, Byt.nil _ _, ⟨fun _ => rfl, Nat.le_refl _⟩, fun b h => (by cases h), hb⟩
  · exact ⟨_, _, rfl, Row.byt (rest := []) (by simpa using hr) rfl, ⟨fun h => (by cases h), Nat.le_refl _⟩, fun b h => by cases h; exact ⟨Nat.le_refl _, hr.lt⟩, hb⟩
/-- A node of the reference; d tells where its bytes lie. -/
def rcs (L : List ND) (d : Nat → Option Addr × Nat) (i : Nat) : List Value := [.int .u8 (L.getD i default).kind, .int .u16 (L.getD i default).mode, .int .u32 (L.getD i default).uid, .int .u32 (L.getD i default).gid, .int .i64 (L.getD i default).size, .int .i64 ((L.getD i default).up : Nat), .string (ba (nmL L i)), .slice (d i).1 (L.getD i default).data.length (d i).2, .string (ba (L.getD i default).to)]
def rrs (L : List ND) (d : Nat → Option Addr × Nat) : List (List Value) := (List.range L.length).map (rcs L d)
theorem rrs_len (L : List ND) (d : Nat → Option Addr × Nat) : (rrs L d).length = L.length := by simp [rrs]
theorem rrs_nine (L : List ND) (d : Nat → Option Addr × Nat) : ∀ r ∈ rrs L d, r.length = 9 := by
  intro r hr
  obtain ⟨i, _, rfl⟩ := List.mem_map.1 hr
  rfl
/-- The reference's file system in memory. -/
structure RF (w : World) (G : Nat) (L : List ND) (d : Nat → Option Addr × Nat) : Prop where
  fine : Fine L
  lay : ∃ P, Lay L P
  kid : Kid L
  top : ∃ a c, Row w G 68 [.slice a L.length c] ∧ Rk w 9 a L.length (rrs L d)
  data : ∀ i, i < L.length → Byt w (d i).1 (L.getD i default).data.length (L.getD i default).data ∧ ((d i).1 = none → (d i).2 = 0) ∧ (L.getD i default).data.length ≤ (d i).2
theorem RF.below {w w' : World} {G : Nat} {L : List ND} {d : Nat → Option Addr × Nat} (h : RF w G L d) (hb : Below w.heap.size w w') : RF w' G L d :=
  ⟨h.fine, h.lay, h.kid, by
    obtain ⟨a, c, h1, h2⟩ := h.top
    exact ⟨a, c, h1.below hb h1.lt, h2.below' hb⟩, fun i hi => ⟨(h.data i hi).1.below' hb, (h.data i hi).2⟩⟩
theorem RF.at {w : World} {G : Nat} {L : List ND} {d : Nat → Option Addr × Nat} (h : RF w G L d) : ∃ b o c, w.cell? ⟨G, 0, none⟩ = some (.slice (some ⟨b, o, none⟩) L.length c) ∧ G < w.heap.size ∧ b < w.heap.size ∧
    ∀ i, i < L.length → (w.cell? ⟨b, o + i * 9, none⟩ = some (.int .u8 (L.getD i default).kind) ∧ w.cell? ⟨b, o + i * 9 + 1, none⟩ = some (.int .u16 (L.getD i default).mode) ∧ w.cell? ⟨b, o + i * 9 + 2, none⟩ = some (.int .u32 (L.getD i default).uid) ∧ w.cell? ⟨b, o + i * 9 + 3, none⟩ = some (.int .u32 (L.getD i default).gid) ∧ w.cell? ⟨b, o + i * 9 + 4, none⟩ = some (.int .i64 (L.getD i default).size)) ∧
      (w.cell? ⟨b, o + i * 9 + 5, none⟩ = some (.int .i64 ((L.getD i default).up : Nat)) ∧ w.cell? ⟨b, o + i * 9 + 6, none⟩ = some (.string (ba (nmL L i))) ∧ w.cell? ⟨b, o + i * 9 + 7, none⟩ = some (.slice (d i).1 (L.getD i default).data.length (d i).2) ∧ w.cell? ⟨b, o + i * 9 + 8, none⟩ = some (.string (ba (L.getD i default).to))) := by
  obtain ⟨a, c, h1, h2⟩ := h.top
  obtain ⟨b, o, rfl, hat⟩ := h2.some_of (by rw [rrs_len]; exact h.fine.pos)
  have hg : ∀ i (hi : i < L.length) j (hj : j < 9), w.cell? ⟨b, o + i * 9 + j, none⟩ = some ((rcs L d i)[j]'hj) := fun i hi j hj => by
    have e9 : (rrs L d)[i]'(by rw [rrs_len]; exact hi) = rcs L d i := by simp [rrs]
    have := hat i (by rw [rrs_len]; exact hi) j (by rw [e9]; exact hj)
    simp only [e9] at this
    exact this
  have hz := World.block_lt_of_cell? w _ (hg 0 h.fine.pos 0 (by omega))
  refine ⟨b, o, c, h1.cell 0 (by simp), h1.lt, hz, fun i hi => ⟨⟨hg i hi 0 (by omega), hg i hi 1 (by omega), hg i hi 2 (by omega), hg i hi 3 (by omega), hg i hi 4 (by omega)⟩, hg i hi 5 (by omega), hg i hi 6 (by omega), hg i hi 7 (by omega), hg i hi 8 (by omega)⟩⟩

def kidV (L : List ND) (dir : Nat) (nm : BL) : Int := match lookI (L.getD dir default).names nm with
  | some i => (i : Int)
  | none => -1
theorem kidV_some {L : List ND} {dir : Nat} {nm : BL} {i : Nat} (h : lookI (L.getD dir default).names nm = some i) : kidV L dir nm = (i : Int) := by unfold kidV; rw [h]
theorem kidV_none {L : List ND} {dir : Nat} {nm : BL} (h : lookI (L.getD dir default).names nm = none) : kidV L dir nm = -1 := by unfold kidV; rw [h]

set_option maxRecDepth 100000 in
set_option maxHeartbeats 4000000 in
theorem rchild_any (G : Nat) (L : List ND) (d : Nat → Option Addr × Nat) (dir : Nat) (nm : BL) (w : World) (h : RF w G L d) (hd : dir < L.length) :
    Calls Tryz.prog 39 #[.pointer (some ⟨G, 0, none⟩), .int .i64 (dir : Nat), .string (ba nm)] w fun e w' => e = .returned (.int .i64 (kidV L dir nm)) ∧ w = w' := by
  obtain ⟨P, hL⟩ := h.lay
  have hK := h.kid
  have hmost := h.fine.most
  have hpos := h.fine.pos
  have HIT := hid (fun k (hk : 0 < k) (hk2 : k < L.length) (hu : (L.getD k default).up = dir) (hn : nmL L k = nm) => kidV_some ((kid_iff hL hK hd nm k).2 ⟨hk, hk2, hu, hn⟩))
  have HNO := hid (fun h => kidV_none (kid_none hL hK hd (nm := nm) h))
  obtain ⟨b, o, c, x0, hG, hb, hat⟩ := h.at
  have HAT := hid hat
  clear hat hL hK h
  go_enter Tryz.func39, Tryz.ntmps39
  go_wp2_with fail
  go_loop [7] (fun i => ∃ k : Nat, 1 ≤ k ∧ k ≤ L.length ∧ i = .int .i64 k ∧ ∀ j, 0 < j → j < k → ¬ ((L.getD j default).up = dir ∧ nmL L j = nm)) (fun i => L.length - (intOf i).toNat)
  case atStart => exact ⟨1, Nat.le_refl _, by omega, rfl, fun j h1 h2 => by omega⟩
  case round =>
    obtain ⟨k, hk1, hk, rfl, hno⟩ := hrel
    have HN := hid hno
    clear hno
    by_cases hlt : k < L.length
    · have d1 : decide ((k : Int) < (L.length : Int)) = true := by simp; omega
      have d1n : decide (k < L.length) = true := by simp; omega
      obtain ⟨_, g5, g6, _, _⟩ := HAT.out k hlt
      have HITk := hid (HIT.out k hk1 hlt)
      have HNX := hid (fun (h : ¬ ((L.getD k default).up = dir ∧ nmL L k = nm)) => show ∀ j, 0 < j → j < k + 1 → ¬ ((L.getD j default).up = dir ∧ nmL L j = nm) from fun j h1 h2 => by
        by_cases e : j = k
        · subst e; exact h
        · exact HN.out j h1 (by omega))
      have hq := ba_beq2 (nmL L k) nm
      generalize (L.getD k default).up = u at *
      generalize nmL L k = q at *
      by_cases hu : u = dir
      · have du : ((u : Int) == (dir : Int)) = true := by simp [hu]
        have HU := hid hu
        clear hu
        by_cases hn : q = nm
        · rw [decide_eq_true hn] at hq
          have HF := hid (HITk.out HU.out hn)
          clear hn
          go_wp2_with fail
          go_ret
          exact ⟨ret_i64 HF.out.symm, rfl⟩
        · rw [decide_eq_false hn] at hq
          have HF := hid (HNX.out (fun h => hn h.2))
          clear hn
          go_wp2_with fail
          go_round
          case rel => exact ⟨k + 1, by omega, by omega, by go_num, HF.out⟩
          case measure => simp [intOf]; omega
      · have du : ((u : Int) == (dir : Int)) = false := by rw [beq_eq_false_iff_ne]; omega
        have HF := hid (HNX.out (fun h => hu h.1))
        clear hu
        go_wp2_with fail
        go_round
        case rel => exact ⟨k + 1, by omega, by omega, by go_num, HF.out⟩
        case measure => simp [intOf]; omega
    · have d1 : decide ((k : Int) < (L.length : Int)) = false := by simp; omega
      have d1n : decide (k < L.length) = false := by simp; omega
      have HF := hid (HNO.out (fun i h1 h2 => HN.out i h1 (by omega)))
      go_wp2_with fail
      go_ret
      exact ⟨ret_i64 HF.out.symm, rfl⟩

def isDirL (L : List ND) (x : Int) : Bool := decide (0 ≤ x) && decide (x < (L.length : Int)) && decide ((L.getD x.toNat default).kind = 2)
set_option maxRecDepth 100000 in
set_option maxHeartbeats 2000000 in
theorem rdir6_any (G : Nat) (L : List ND) (d : Nat → Option Addr × Nat) (x : Int) (w : World) (h : RF w G L d) :
    Calls Tryz.prog 52 #[.pointer (some ⟨G, 0, none⟩), .int .i64 x] w fun e w' => e = .returned (.bool (isDirL L x)) ∧ w = w' := by
  have hmost := h.fine.most
  obtain ⟨b, o, c, x0, hG, hb, hat⟩ := h.at
  have HAT := hid hat
  clear hat h
  have HD : Hid (isDirL L x = (decide (0 ≤ x) && decide (x < (L.length : Int)) && decide ((L.getD x.toNat default).kind = 2))) := hid rfl
  by_cases h0 : 0 ≤ x
  · obtain ⟨k, rfl⟩ := Int.eq_ofNat_of_zero_le h0
    by_cases hlt : k < L.length
    · have d1 : decide ((k : Int) < (L.length : Int)) = true := by simp; omega
      have d1n : decide (k < L.length) = true := by simp; omega
      obtain ⟨⟨g0, _⟩, _⟩ := HAT.out k hlt
      have HF := hid (show ((L.getD k default).kind == 2) = isDirL L (k : Int) by rw [HD.out, d1]; simp; rfl)
      clear HD h0
      generalize (L.getD k default).kind = kd at *
      go_enter Tryz.func52, Tryz.ntmps52
      go_wp2_with fail
      go_ret
      exact ⟨ret_bool HF.out, rfl⟩
    · have d1 : decide ((k : Int) < (L.length : Int)) = false := by simp; omega
      have d1n : decide (k < L.length) = false := by simp; omega
      have HF := hid (show false = isDirL L (k : Int) by rw [HD.out, d1]; simp)
      clear HD h0
      go_enter Tryz.func52, Tryz.ntmps52
      go_wp2_with fail
      go_ret
      exact ⟨ret_bool HF.out, rfl⟩
  · have d0 : decide (0 ≤ x) = false := by simpa using h0
    have HF := hid (show false = isDirL L x by rw [HD.out, d0]; rfl)
    clear HD
    go_enter Tryz.func52, Tryz.ntmps52
    go_wp2_with fail
    go_ret
    exact ⟨ret_bool HF.out, rfl⟩

set_option maxRecDepth 100000 in
set_option maxHeartbeats 2000000 in
theorem rmeta_in (G : Nat) (L : List ND) (d : Nat → Option Addr × Nat) (i : Nat) (w : World) (h : RF w G L d) (hi : i < L.length) :
    Calls Tryz.prog 27 #[.pointer (some ⟨G, 0, none⟩), .int .i64 i] w fun e w' => e = .returned (.tuple #[metaV (L.getD i default), .int .i64 0]) ∧ Below w.heap.size w w' := by
  have hmost := h.fine.most
  have HB0 := hid (@bal w (.cells #[.int .u8 0, .int .u16 0, .int .u32 0, .int .u32 0, .int .i64 0] 58))
  obtain ⟨b, o, c, x0, hG, hb, hat⟩ := h.at
  obtain ⟨⟨g0, g1, g2, g3, g4⟩, _⟩ := hat i hi
  have d1 : decide ((L.length : Int) ≤ (i : Int)) = false := by simp; omega
  have d1n : decide (L.length ≤ i) = false := by simp; omega
  clear hat h
  generalize L.getD i default = x at *
  go_enter Tryz.func27, Tryz.ntmps27
  go_wp2_with fail
  refine bodyPost_ret (v := .tuple #[metaV x, .int .i64 0]) (by simp [results, Tryz.results27, Tryz.f27, go_sem]) rfl ⟨rfl, ?_⟩
  first | exact bal _ | exact HB0.out | (repeat (first | with_reducible refine bset ?_ (by omega) _)); exact HB0.out
theorem rmeta_out (G : Nat) (L : List ND) (d : Nat → Option Addr × Nat) (i : Int) (w : World) (h : RF w G L d) (hi : ¬ (0 ≤ i ∧ i < (L.length : Int))) :
    Calls Tryz.prog 27 #[.pointer (some ⟨G, 0, none⟩), .int .i64 i] w fun e w' => e = .returned (.tuple #[.agg #[.int .u8 0, .int .u16 0, .int .u32 0, .int .u32 0, .int .i64 0], .int .i64 3]) ∧ Below w.heap.size w w' := by
  have HB0 := hid (@bal w (.cells #[.int .u8 0, .int .u16 0, .int .u32 0, .int .u32 0, .int .i64 0] 58))
  obtain ⟨b, o, c, x0, hG, hb, hat⟩ := h.at
  clear hat h
  by_cases h0 : i < 0
  · have d0 : decide (i < 0) = true := by simpa using h0
    go_enter Tryz.func27, Tryz.ntmps27
    go_wp2_with fail
    refine bodyPost_ret (v := .tuple #[.agg #[.int .u8 0, .int .u16 0, .int .u32 0, .int .u32 0, .int .i64 0], .int .i64 3]) (by simp [results, Tryz.results27, Tryz.f27, go_sem]) rfl ⟨rfl, ?_⟩
    first | exact HB0.out | (repeat (first | with_reducible refine bset ?_ (by omega) _)); exact HB0.out
  · have d0 : decide (i < 0) = false := by simpa using h0
    have d1 : decide ((L.length : Int) ≤ i) = true := by simp; omega
    go_enter Tryz.func27, Tryz.ntmps27
    go_wp2_with fail
    refine bodyPost_ret (v := .tuple #[.agg #[.int .u8 0, .int .u16 0, .int .u32 0, .int .u32 0, .int .i64 0], .int .i64 3]) (by simp [results, Tryz.results27, Tryz.f27, go_sem]) rfl ⟨rfl, ?_⟩
    first | exact HB0.out | (repeat (first | with_reducible refine bset ?_ (by omega) _)); exact HB0.out

def atV (L : List ND) (ds : List BL) : Int := match atL L 0 ds with
  | some i => (i : Int)
  | none => -1
set_option maxRecDepth 100000 in
set_option maxHeartbeats 4000000 in
theorem rat_any (G : Nat) (L : List ND) (d : Nat → Option Addr × Nat) (a : Option Addr) (n c : Nat) (ds : List BL) (w : World) (h : RF w G L d) (hC : Cel w a n (strs ds)) (hn : ds.length = n) (hl : n ≤ 1000000) :
    Calls Tryz.prog 20 #[.pointer (some ⟨G, 0, none⟩), .slice a n c] w fun e w' => e = .returned (.int .i64 (atV L ds)) ∧ w = w' := by
  subst hn
  have HC := hid hC
  have HR := hid h
  have hpos := h.fine.pos
  have HV : Hid (atV L ds = match atL L 0 ds with
  | some i => (i : Int)
  | none => -1) := hid rfl
  clear hC h
  go_enter Tryz.func20, Tryz.ntmps20
  go_wp2_with fail
  go_loop [5, 6] (fun v i => ∃ k : Nat, k ≤ ds.length ∧ i = .int .i64 k ∧ ((v = .int .i64 (-1) ∧ atV L ds = -1) ∨ ∃ m : Nat, m < L.length ∧ v = .int .i64 m ∧ atL L m (ds.drop k) = atL L 0 ds)) (fun _ i => ds.length - (intOf i).toNat)
  case atStart => exact ⟨0, Nat.zero_le _, rfl, .inr ⟨0, hpos, rfl, rfl⟩⟩
  case round =>
    obtain ⟨k, hk, rfl, hv⟩ := hrel
    rcases hv with ⟨rfl, hv⟩ | ⟨m, hm, rfl, hat⟩
    · have HF := hid hv
      clear hv
      by_cases hlt : k < ds.length
      · have d1 : decide ((k : Int) < (ds.length : Int)) = true := by simp; omega
        have d1n : decide (k < ds.length) = true := by simp; omega
        go_wp2_with fail
        go_ret
        exact ⟨ret_i64 HF.out.symm, rfl⟩
      · have d1 : decide ((k : Int) < (ds.length : Int)) = false := by simp; omega
        have d1n : decide (k < ds.length) = false := by simp; omega
        go_wp2_with fail
        go_ret
        exact ⟨ret_i64 HF.out.symm, rfl⟩
    · have HAT := hid hat
      clear hat
      by_cases hlt : k < ds.length
      · have d1 : decide ((k : Int) < (ds.length : Int)) = true := by simp; omega
        have d1n : decide (k < ds.length) = true := by simp; omega
        obtain ⟨b, o, rfl, hcell⟩ := HC.out.some_of (by simp [strs]; omega)
        have g := strs_at hcell hlt
        have HDR := hid (List.drop_eq_getElem_cons hlt)
        generalize ds[k] = p at *
        have HCH := hid (rchild_any G L d m p w HR.out hm)
        clear hcell
        cases hlk : lookI (L.getD m default).names p with
        | none =>
          rw [kidV_none hlk] at HCH
          have HNX := hid (show atV L ds = -1 by rw [HV.out, ← HAT.out, HDR.out, atL_cons, hlk])
          clear hlk
          go_wp2_with fail
          refine (HCH.out).mono ?_
          rintro e' w1 ⟨rfl, rfl⟩
          go_wp2_with fail
          go_round
          case rel => exact ⟨k + 1, by omega, by go_num, .inl ⟨rfl, HNX.out⟩⟩
          case measure => simp [intOf]; omega
        | some j =>
          rw [kidV_some hlk] at HCH
          have HJ := hid (HR.out.kid m hm p j hlk).2.1
          have HNX := hid (show atL L j (ds.drop (k + 1)) = atL L 0 ds by rw [← HAT.out, HDR.out, atL_cons, hlk])
          clear hlk
          go_wp2_with fail
          refine (HCH.out).mono ?_
          rintro e' w1 ⟨rfl, rfl⟩
          go_wp2_with fail
          go_round
          case rel => exact ⟨k + 1, by omega, by go_num, .inr ⟨j, HJ.out, rfl, HNX.out⟩⟩
          case measure => simp [intOf]; omega
      · have d1 : decide ((k : Int) < (ds.length : Int)) = false := by simp; omega
        have d1n : decide (k < ds.length) = false := by simp; omega
        have HF := hid (show atV L ds = (m : Int) by rw [HV.out, ← HAT.out, List.drop_eq_nil_of_le (by omega), atL])
        go_wp2_with fail
        go_ret
        exact ⟨ret_i64 HF.out.symm, rfl⟩

theorem gp_app (a b : List BL) : gp (a ++ b) = gp a ++ gp b := by simp [gp]
end Go.Proofs.YthamfhenadaapaaGreatDoor
