
/- Merged: Qb6 Qb7. -/
import Derived.Test.YtkkadknijjninaaDoorQa7
import Derived.Test.YtkkadknijjninaaDoorKE
import Derived.Laws.Closers25b
import Derived.Deep.QuietTactic
import Derived.BigQuiet
namespace Go.Proofs.YtkkadknijjninaaDoor
open Go.RowKit Go.Sort Go.Shelf
attribute [local go_sem] Oper.semAt_some

def hstep (y : Int) (c : UInt8) : Int := bits BinOp.xor .u32 (bits BinOp.andNot .u32 ((y * 16 + (c.toNat : Int)) % 4294967296) 4026531840) (bits BinOp.and .u32 ((y * 16 + (c.toNat : Int)) % 4294967296) 4026531840 / 16777216)
/-- A name's number in hash tables. -/
def hashN (s : BL) : Int := s.foldl hstep 0
theorem hstep_u (y : Int) (c : UInt8) : 0 ≤ hstep y c ∧ hstep y c ≤ 4294967295 := by
  have h := bits_within BinOp.xor .u32 (bits BinOp.andNot .u32 ((y * 16 + (c.toNat : Int)) % 4294967296) 4026531840) (bits BinOp.and .u32 ((y * 16 + (c.toNat : Int)) % 4294967296) 4026531840 / 16777216)
  exact h
theorem hashN_u (s : BL) : 0 ≤ hashN s ∧ hashN s ≤ 4294967295 := by
  rcases s.eq_nil_or_concat with rfl | ⟨e, x, rfl⟩
  · exact ⟨by decide, by decide⟩
  · rw [List.concat_eq_append]
    unfold hashN
    rw [List.foldl_append]
    exact hstep_u _ _
set_option maxRecDepth 100000 in
set_option maxHeartbeats 8000000 in
theorem hash_any (s : BL) (w : World) (hs : s.length ≤ 140737488351232) :
    Calls Tryd.prog 12 #[.string (ba s)] w fun e w' => e = .returned (.int .u32 (hashN s)) ∧ w = w' := by
  have HS := hid hs
  clear hs
  go_enter Tryd.func12, Tryd.ntmps12
  go_wp2_with fail
  go_loopw [3, 8] (fun x i wr => ∃ k : Nat, k ≤ s.length ∧ i = .int .i64 k ∧ x = .int .u32 (hashN (s.take k)) ∧ w = wr) (fun _ i _ => s.length - (intOf i).toNat)
  case atStart => exact ⟨0, Nat.zero_le _, rfl, rfl, rfl⟩
  case round =>
    obtain ⟨k, hk, rfl, rfl, rfl⟩ := hrel
    have hss := HS.out
    by_cases hlt : k < s.length
    · have d1 : decide ((k : Int) < ((ba s).size : Int)) = true := by rw [ba_size]; simp; omega
      have d1n : decide (k < (ba s).size) = true := by rw [ba_size]; simp; omega
      have HT := hid (show hashN (s.take (k + 1)) = hstep (hashN (s.take k)) s[k] by rw [List.take_succ_eq_append_getElem hlt]; unfold hashN; rw [List.foldl_append]; rfl)
      have HC := hid (show ∀ h, ((ba s)[k]'h) = s[k] from fun h => rfl)
      generalize hashN (s.take k) = y at *
      go_wp2_with fail
      go_roundw
      case rel => exact ⟨k + 1, by omega, by go_num, by rw [HT.out]; rfl, trivial⟩
      case measure => simp [intOf]; omega
    · have d1 : decide ((k : Int) < ((ba s).size : Int)) = false := by rw [ba_size]; simp; omega
      have d1n : decide (k < (ba s).size) = false := by rw [ba_size]; simp; omega
      have HF := hid (show hashN (s.take k) = hashN s by rw [List.take_of_length_le (by omega)])
      have hkz : ¬ ((k : Int) < ((ba s).size : Int)) := by rw [ba_size]; omega
      have hkn : ¬ (k < (ba s).size) := by rw [ba_size]; omega
      generalize hashN (s.take k) = y at *
      clear hlt hss hk
      go_wp2_with fail
      go_ret
      exact ⟨by rw [HF.out]; rfl, rfl⟩
/-- The links of a bucket, from a link on. -/
def linkG (cs : List Int) : Nat → Int → List Int → List Int × Bool
  | 0, link, acc => (acc, link == 0)
  | f + 1, link, acc => if link = 0 then (acc, true) else if (cs.length : Int) ≤ link then (acc, false) else linkG cs f (cs.getD link.toNat 0) (acc ++ [link])
def linksL (bs cs : List Int) (s : BL) : List Int × Bool := if bs = [] then ([], false) else linkG cs cs.length (bs.getD (hashN s % bs.length).toNat 0) []
structure LnkP (R : List Int × Bool) (w : World) (e : Ending) (w' : World) : Prop where
  ex : ∃ a c, e = .returned (.tuple #[.slice a R.1.length c, .bool R.2]) ∧ Nums w' .u64 a R.1.length R.1
  low : Below w.heap.size w w'
theorem getD_n {l : List Int} {i : Nat} (h : i < l.length) : l.getD i 0 = l[i] := by rw [List.getD_eq_getElem?_getD, List.getElem?_eq_getElem h]; rfl
set_option maxRecDepth 100000 in
set_option maxHeartbeats 16000000 in
theorem links_any (a b : Option Addr) (ca cb : Nat) (bs cs : List Int) (s : BL) (w : World) (hA : Nums w .u64 a bs.length bs) (hB : Nums w .u64 b cs.length cs) (hbl : bs.length ≤ 1000000000) (hcl : cs.length ≤ 1000000000) (hcu : ∀ x ∈ cs, 0 ≤ x ∧ x ≤ 18446744073709551615) (hbu : ∀ x ∈ bs, 0 ≤ x ∧ x ≤ 18446744073709551615) (hs : s.length ≤ 140737488351232) :
    Calls Tryd.prog 22 #[.agg #[.slice a bs.length ca, .slice b cs.length cb], .string (ba s)] w (LnkP (linksL bs cs s) w) := by
  obtain ⟨W, hW⟩ : ∃ W, W = w.alloc (.cells #[.slice a bs.length ca, .slice b cs.length cb] 58) := ⟨_, rfl⟩
  have HW := hid hW
  have HLOW := hid (show Below w.heap.size w W by rw [hW]; exact bal _)
  have HROW := hid (show Row W w.heap.size 58 [.slice a bs.length ca, .slice b cs.length cb] by rw [hW]; exact Row.new _ _ _)
  have HA := hid (hA.below' HLOW.out)
  have HB := hid (hB.below' HLOW.out)
  have HBL := hid hbl
  have HCL := hid hcl
  have HCU := hid hcu
  have HBU := hid hbu
  obtain ⟨R, hR⟩ : ∃ R, R = linksL bs cs s := ⟨_, rfl⟩
  rw [← hR]
  have HR := hid hR
  have HH := hid (fun wx => hash_any s wx hs)
  obtain ⟨x0, x1⟩ := (show W.cell? ⟨w.heap.size, 0, none⟩ = some (.slice a bs.length ca) ∧ W.cell? ⟨w.heap.size, 1, none⟩ = some (.slice b cs.length cb) from ⟨HROW.out.cell 0 (by simp), HROW.out.cell 1 (by simp)⟩)
  have hrl := HROW.out.lt
  clear hW hA hB hbl hcl hcu hbu hR hs
  by_cases hz : bs.length = 0
  · have d1 : ((bs.length : Int) == 0) = true := by rw [beq_iff_eq]; omega
    have d1n : (bs.length == 0) = true := by rw [beq_iff_eq]; omega
    have HF := hid (show R = ([], false) by rw [HR.out]; unfold linksL; rw [if_pos (List.length_eq_zero_iff.1 hz)])
    clear hz
    go_enter Tryd.func22, Tryd.ntmps22
    go_wp2_with fail
    rw [← HW.out]
    go_wp2_with fail
    go_ret2
    exact ⟨⟨none, 0, by rw [HF.out]; rfl, by rw [HF.out]; exact Nums.nil _ _ _⟩, HLOW.out⟩
  have d1 : ((bs.length : Int) == 0) = false := by rw [beq_eq_false_iff_ne]; omega
  have d1n : (bs.length == 0) = false := by rw [beq_eq_false_iff_ne]; omega
  have hhu := hashN_u s
  have hbl := HBL.out
  obtain ⟨q, hq⟩ : ∃ q : Nat, (q : Int) = hashN s % bs.length := ⟨(hashN s % bs.length).toNat, by have := Int.emod_nonneg (hashN s) (show (bs.length : Int) ≠ 0 by omega); omega⟩
  have hqb : q < bs.length := by have := Int.emod_lt_of_pos (hashN s) (show (0 : Int) < bs.length by omega); omega
  obtain ⟨ba', bo, rfl, hbc⟩ := HA.out.cell q hqb
  have HSTART := hid (show R = linkG cs cs.length bs[q] [] by
    rw [HR.out]
    unfold linksL
    rw [if_neg (fun h => hz (by rw [h]; rfl)), ← hq, Int.toNat_natCast, getD_n hqb])
  have HB0 := hid (HBU.out bs[q] (List.getElem_mem _))
  generalize bs[q] = link0 at *
  have ewh := IntWalk.u64_in (hashN s) ⟨by omega, by omega⟩
  have ewl := IntWalk.u64_in (bs.length : Int) ⟨by omega, by omega⟩
  have et : (hashN s).tmod (bs.length : Int) = (q : Int) := by rw [Int.tmod_eq_emod_of_nonneg hhu.1, ← hq]
  have ewq := IntWalk.u64_in (q : Int) ⟨by omega, by omega⟩
  have hq0 : (0 : Int) ≤ (q : Int) := by omega
  have hq1 : (q : Int) < (bs.length : Int) := by omega
  have HHU := hid hhu
  generalize hashN s = hh at *
  clear hz hhu hbl hq
  go_enter Tryd.func22, Tryd.ntmps22
  go_wp2_with fail
  rw [← HW.out]
  go_wp2_with fail
  go_quiet ((go_at_call 12; exact Calls.quiet_of_same ((HH.out _).mono (fun _ _ h => ⟨h.1, h.2.symm⟩))))
  have HBL1 := hid (bdN HLOW.out nq)
  have HRW1 := hid (HROW.out.drewN nq)
  have HB1 := hid (HB.out.below' (bdN (Below.refl _ _) nq))
  generalize World.drewN W nq = w1 at HBL1 HRW1 HB1 ⊢
  clear x0 x1 hrl hbc ewh ewl et ewq hq0 hq1
  obtain ⟨x0, x1⟩ := (show w1.cell? ⟨w.heap.size, 0, none⟩ = some (.slice (some ⟨ba', bo, none⟩) bs.length ca) ∧ w1.cell? ⟨w.heap.size, 1, none⟩ = some (.slice b cs.length cb) from ⟨HRW1.out.cell 0 (by simp), HRW1.out.cell 1 (by simp)⟩)
  go_wp2_with fail
  clear x0 x1
  go_loopw [6, 7, 27] (fun v u i wr => ∃ (k : Nat) (sv : Value) (lk : Int) (acc : List Int), k ≤ cs.length ∧ sv = v ∧ u = .int .u64 lk ∧ i = .int .i64 k ∧ linkG cs (cs.length - k) lk acc = R ∧ wr.ownsRow w1.heap.size 24 1 sv acc.length (acc.map (Value.int .u64)) ∧ 0 ≤ lk ∧ lk ≤ 18446744073709551615 ∧ acc.length ≤ k ∧ Below w1.heap.size w1 wr) (fun _ _ i _ => cs.length - (intOf i).toNat)
  case atStart => exact ⟨0, _, link0, [], Nat.zero_le _, rfl, rfl, rfl, HSTART.out.symm, ⟨rfl, .inl ⟨rfl, rfl⟩⟩, HB0.out.1, HB0.out.2, Nat.le_refl _, Below.refl _ _⟩
  case round =>
    obtain ⟨k, sv, lk, acc, hk, rfl, rfl, rfl, hlg, hown, hl0, hl1, hal, hb⟩ := hrel
    have HO := hid hown
    have HB2 := hid hb
    have HLG := hid hlg
    have HLU := hid (And.intro hl0 hl1)
    have HAL := hid hal
    have hcl := HCL.out
    have HBW := hid (HBL1.out.trans (hb.mono HBL1.out.size))
    have x1 := (HRW1.out.below hb HRW1.out.lt).cell' 1
    have hrl := (HRW1.out.below hb HRW1.out.lt).lt
    clear hlg hown
    by_cases hlt : k < cs.length
    rotate_left
    · have d2 : decide ((k : Int) < (cs.length : Int)) = false := by simp; omega
      have d2n : decide (k < cs.length) = false := by simp; omega
      have HF := hid (show R = (acc, lk == 0) by rw [← HLG.out, show cs.length - k = 0 by omega]; rfl)
      obtain ⟨a9, c9, rfl, hn9⟩ := own_nums HO.out
      have HN9 := hid hn9
      clear hcl hlt hk hal hb hl0 hl1 hn9
      go_wp2_with fail
      go_ret2
      exact ⟨⟨a9, c9, by rw [HF.out]; rfl, by rw [HF.out]; exact HN9.out⟩, HBW.out⟩
    have d2 : decide ((k : Int) < (cs.length : Int)) = true := by simp; omega
    have d2n : decide (k < cs.length) = true := by simp; omega
    have HST := hid (show R = (if lk = 0 then (acc, true) else if (cs.length : Int) ≤ lk then (acc, false) else linkG cs (cs.length - (k + 1)) (cs.getD lk.toNat 0) (acc ++ [lk])) by
      rw [← HLG.out, show cs.length - k = (cs.length - (k + 1)) + 1 by omega]
      rfl)
    have ewl := IntWalk.u64_in (cs.length : Int) ⟨by omega, by omega⟩
    by_cases hz : lk = 0
    · have e1 : (lk == 0) = true := by simpa using hz
      have HF := hid (show R = (acc, true) by rw [HST.out, if_pos hz])
      obtain ⟨a9, c9, rfl, hn9⟩ := own_nums HO.out
      have HN9 := hid hn9
      clear hcl hlt hk hal hb hl0 hl1 hn9 hz
      go_wp2_with fail
      go_ret2
      exact ⟨⟨a9, c9, by rw [HF.out]; rfl, by rw [HF.out]; exact HN9.out⟩, HBW.out⟩
    have e1 : (lk == 0) = false := by simpa using hz
    by_cases hge : (cs.length : Int) ≤ lk
    · have e2 : decide ((cs.length : Int) ≤ lk) = true := by simpa using hge
      have HF := hid (show R = (acc, false) by rw [HST.out, if_neg hz, if_pos hge])
      obtain ⟨a9, c9, rfl, hn9⟩ := own_nums HO.out
      have HN9 := hid hn9
      clear hcl hlt hk hal hb hl0 hl1 hn9 hz hge
      go_wp2_with fail
      go_ret2
      exact ⟨⟨a9, c9, by rw [HF.out]; rfl, by rw [HF.out]; exact HN9.out⟩, HBW.out⟩
    have e2 : decide ((cs.length : Int) ≤ lk) = false := by simpa using hge
    obtain ⟨j, rfl⟩ := Int.eq_ofNat_of_zero_le hl0
    have hj : j < cs.length := by omega
    have HG := hid (show R = linkG cs (cs.length - (k + 1)) cs[j] (acc ++ [(j : Int)]) by rw [HST.out, if_neg hz, if_neg hge, Int.toNat_natCast, getD_n hj])
    have HCJ := hid (HCU.out cs[j] (List.getElem_mem _))
    obtain ⟨b9, o9, rfl, hcj⟩ := (HB1.out.below' hb).cell j hj
    have e2n : decide (cs.length ≤ j) = false := by simp; omega
    have hj0 : (0 : Int) ≤ (j : Int) := by omega
    have hj1 : (j : Int) < (cs.length : Int) := by omega
    generalize cs[j] = nx at *
    obtain ⟨W5, hW5⟩ : ∃ W5, W5 = wr.alloc (.cells #[.int .u64 (j : Int)] 24) := ⟨_, rfl⟩
    have HB5 := hid (show Below w1.heap.size w1 W5 by rw [hW5]; exact HB2.out.alloc HB2.out.size _)
    have HO5 := hid (show W5.ownsRow w1.heap.size 24 1 sv acc.length (acc.map (Value.int .u64)) by rw [hW5]; exact HO.out.alloc _)
    have HCE := hid (show Cel W5 (some ⟨wr.heap.size, 0, none⟩) 1 [.int .u64 (j : Int)] from by
      rw [hW5]
      have h := Row.new wr 24 [.int .u64 (j : Int)]
      exact ⟨rfl, fun i hi => ⟨_, 0, rfl, by simpa using h.cell i hi⟩⟩)
    have HONE := hid (show ∀ u ∈ [Value.int .u64 (j : Int)], u.oneCell' = true from fun u hu => by rw [List.mem_singleton.1 hu]; rfl)
    have HNO := hid (show (some (Addr.mk wr.heap.size 0 none)) = none → 1 = 0 from fun h => by cases h)
    have HN1 := hid (show (acc.length + 1) * 8 ≤ 140737488355328 by have := HAL.out; omega)
    have HN2 := hid (show acc.length + 1 ≤ maxLen by have := HAL.out; unfold maxLen; omega)
    have HNZ := hid (show w1.heap.size ≤ W5.heap.size from HB5.out.size)
    have HFI := hid (fun (w9 : World) (h : Below w1.heap.size W5 w9) => HB5.out.trans h)
    have HXF := hid (fun (w9 : World) (h : Below w1.heap.size w1 w9) => show w9.cell? ⟨w.heap.size, 1, none⟩ = some (.slice (some ⟨b9, o9, none⟩) cs.length cb) ∧ w9.cell? ⟨b9, o9 + j, none⟩ = some (.int .u64 nx) ∧ w.heap.size < w9.heap.size from ⟨(HRW1.out.below h HRW1.out.lt).cell 1 (by simp), by
      have h1 := (HB1.out.below' h)
      have h0 := HB1.out.cell j hj
      obtain ⟨b8, o8, e8, hc8⟩ := h0
      cases e8
      have hq := keepC h hc8
      have hw := (HB1.out.below' hb).cell j hj
      obtain ⟨b7, o7, e7, hc7⟩ := hw
      cases e7
      have := (keepC hb hc8).symm.trans hcj
      rw [hq, this], (HRW1.out.below h HRW1.out.lt).lt⟩)
    subst hW5
    clear hz hge hl0 hl1 hal hb hcj
    go_wp2_with (at_builtin; go_must (refine wpList_ap1 Tryd.underlying56 infoU64 rfl rfl _ _ rfl w1.heap.size sv acc.length (acc.map (Value.int .u64)) [.int .u64 (j : Int)] rfl (some ⟨wr.heap.size, 0, none⟩) 1 1 rfl HO5.out HCE.out HONE.out HNO.out HN1.out HN2.out HNZ.out ?_; intro v' w9 hown hgrow hb9; have HO9 := hid hown; have HB9 := hid (HFI.out w9 hb9); obtain ⟨p1, p2, p3⟩ := HXF.out w9 HB9.out; clear hown hgrow hb9 x1 hrl))
    go_roundw
    case rel => exact ⟨k + 1, _, nx, acc ++ [(j : Int)], by omega, rfl, rfl, by go_num, HG.out.symm, own_ext HO9.out (by simp) (by simp), HCJ.out.1, HCJ.out.2, by rw [List.length_append]; have := HAL.out; simp; omega, HB9.out⟩
    case measure => simp [intOf]; omega
end Go.Proofs.YtkkadknijjninaaDoor
namespace Go.Proofs.YtkkadknijjninaaDoor
open Go.RowKit Go.Sort Go.Shelf
attribute [local go_sem] Oper.semAt_some

theorem linkG_len (cs : List Int) : ∀ (f : Nat) (link : Int) (acc : List Int), (linkG cs f link acc).1.length ≤ acc.length + f
  | 0, link, acc => Nat.le_refl _
  | f + 1, link, acc => by
    unfold linkG
    split
    · exact Nat.le_add_right _ _
    split
    · exact Nat.le_add_right _ _
    have := linkG_len cs f (cs.getD link.toNat 0) (acc ++ [link])
    rw [List.length_append, show [link].length = 1 from rfl] at this
    omega
theorem linkG_mem {cs : List Int} (hcu : ∀ x ∈ cs, 0 ≤ x) : ∀ (f : Nat) (link : Int) (acc : List Int), 0 ≤ link → ∀ x ∈ (linkG cs f link acc).1, x ∈ acc ∨ (0 < x ∧ x < cs.length)
  | 0, link, acc, _, x, hx => .inl hx
  | f + 1, link, acc, h0, x, hx => by
    unfold linkG at hx
    split at hx
    · exact .inl hx
    split at hx
    · exact .inl hx
    rename_i hz hl
    have hn : 0 ≤ cs.getD link.toNat 0 := by
      rw [getD_n (show link.toNat < cs.length by omega)]
      exact hcu _ (List.getElem_mem _)
    rcases linkG_mem hcu f _ _ hn x hx with h | h
    · rcases List.mem_append.1 h with h | h
      · exact .inl h
      · rw [List.mem_singleton] at h
        subst h
        exact .inr ⟨by omega, by omega⟩
    · exact .inr h
theorem linksL_len (bs cs : List Int) (s : BL) : (linksL bs cs s).1.length ≤ cs.length := by
  unfold linksL
  split
  · exact Nat.zero_le _
  · have := linkG_len cs cs.length (bs.getD (hashN s % bs.length).toNat 0) []
    simpa using this
theorem linksL_mem {bs cs : List Int} {s : BL} (hcu : ∀ x ∈ cs, 0 ≤ x) (hbu : ∀ x ∈ bs, 0 ≤ x) : ∀ x ∈ (linksL bs cs s).1, 0 < x ∧ x < cs.length := by
  intro x hx
  unfold linksL at hx
  split at hx
  · cases hx
  · rename_i hz
    have hn : 0 ≤ bs.getD (hashN s % bs.length).toNat 0 := by
      have hb : 0 < bs.length := List.length_pos_iff.2 hz
      have h0 := Int.emod_nonneg (hashN s) (show (bs.length : Int) ≠ 0 by omega)
      have h1 := Int.emod_lt_of_pos (hashN s) (show (0 : Int) < bs.length by omega)
      rw [getD_n (show (hashN s % bs.length).toNat < bs.length by omega)]
      exact hbu _ (List.getElem_mem _)
    rcases linkG_mem hcu _ _ _ hn x hx with h | h
    · cases h
    · exact h
/-- Does a name's bucket lead to a number, and end? -/
def leadsB (bs cs : List Int) (s : BL) (n : Int) : Bool := (linksL bs cs s).1.contains n && (linksL bs cs s).2
set_option maxRecDepth 100000 in
set_option maxHeartbeats 8000000 in
theorem leads_any (a b : Option Addr) (ca cb : Nat) (bs cs : List Int) (s : BL) (n : Int) (w : World) (hA : Nums w .u64 a bs.length bs) (hB : Nums w .u64 b cs.length cs) (hbl : bs.length ≤ 1000000000) (hcl : cs.length ≤ 1000000000) (hcu : ∀ x ∈ cs, 0 ≤ x ∧ x ≤ 18446744073709551615) (hbu : ∀ x ∈ bs, 0 ≤ x ∧ x ≤ 18446744073709551615) (hs : s.length ≤ 140737488351232) :
    Calls Tryd.prog 27 #[.agg #[.slice a bs.length ca, .slice b cs.length cb], .string (ba s), .int .u64 n] w (fun e w' => e = .returned (.bool (leadsB bs cs s n)) ∧ Below w.heap.size w w') := by
  obtain ⟨W, hW⟩ : ∃ W, W = w.alloc (.cells #[.slice a bs.length ca, .slice b cs.length cb] 58) := ⟨_, rfl⟩
  have HW := hid hW
  have HLOW := hid (show Below w.heap.size w W by rw [hW]; exact bal _)
  have HROW := hid (show Row W w.heap.size 58 [.slice a bs.length ca, .slice b cs.length cb] by rw [hW]; exact Row.new _ _ _)
  have HLK := hid (links_any a b ca cb bs cs s W (hA.below' HLOW.out) (hB.below' HLOW.out) hbl hcl hcu hbu hs)
  have HLL := hid (Nat.le_trans (linksL_len bs cs s) hcl)
  obtain ⟨D, hD⟩ : ∃ D, D = leadsB bs cs s n := ⟨_, rfl⟩
  rw [← hD]
  unfold leadsB at hD
  generalize linksL bs cs s = R at hD HLK HLL
  have HD := hid hD
  obtain ⟨x0, x1⟩ := (show W.cell? ⟨w.heap.size, 0, none⟩ = some (.slice a bs.length ca) ∧ W.cell? ⟨w.heap.size, 1, none⟩ = some (.slice b cs.length cb) from ⟨HROW.out.cell 0 (by simp), HROW.out.cell 1 (by simp)⟩)
  have hrl := HROW.out.lt
  clear hW hA hB hbl hcl hcu hbu hs hD
  go_enter Tryd.func27, Tryd.ntmps27
  go_wp2_with fail
  rw [← HW.out]
  go_wp2_with fail
  refine HLK.out.mono ?_
  intro e' w1 h1
  obtain ⟨⟨a9, c9, rfl, hn9⟩, hb1⟩ := (show LnkP _ _ _ _ from h1)
  have HN := hid hn9
  have HBL1 := hid (HLOW.out.trans (hb1.mono HLOW.out.size))
  obtain ⟨acc, ends⟩ := R
  clear h1 hn9 hb1 x0 x1 hrl
  go_wp2_with fail
  go_loopw [19] (fun i wr => ∃ k : Nat, k ≤ acc.length ∧ i = .int .i64 k ∧ ¬ n ∈ acc.take k ∧ w1 = wr) (fun i _ => acc.length - (intOf i).toNat)
  case atStart => exact ⟨0, Nat.zero_le _, rfl, by simp, rfl⟩
  case round =>
    obtain ⟨k, hk, rfl, hno, rfl⟩ := hrel
    have hll := (show acc.length ≤ 1000000000 from HLL.out)
    have HNO := hid hno
    clear hno
    by_cases hlt : k < acc.length
    · have d2 : decide ((k : Int) < (acc.length : Int)) = true := by simp; omega
      have d2n : decide (k < acc.length) = true := by simp; omega
      obtain ⟨b9, o9, rfl, hcj⟩ := HN.out.cell k hlt
      by_cases he : acc[k] = n
      · have HF := hid (show D = ends by
          rw [HD.out]
          have : acc.contains n = true := by rw [List.contains_iff_mem, ← he]; exact List.getElem_mem _
          simp only [this, Bool.true_and])
        have e1 : (acc[k] == n) = true := by simpa using he
        generalize acc[k] = x at *
        clear he
        go_wp2_with fail
        go_ret
        exact ⟨by rw [HF.out]; rfl, HBL1.out⟩
      · have e1 : (acc[k] == n) = false := by simpa using he
        have HT := hid (show ¬ n ∈ acc.take (k + 1) by
          rw [List.take_succ_eq_append_getElem hlt]
          intro hm
          rcases List.mem_append.1 hm with h | h
          · exact HNO.out h
          · rw [List.mem_singleton] at h; exact he h.symm)
        generalize acc[k] = x at *
        clear he
        go_wp2_with fail
        go_roundw
        case rel => exact ⟨k + 1, by omega, by go_num, HT.out, trivial⟩
        case measure => simp [intOf]; omega
    · have d2 : decide ((k : Int) < (acc.length : Int)) = false := by simp; omega
      have d2n : decide (k < acc.length) = false := by simp; omega
      have HF := hid (show D = false by
        rw [HD.out]
        have : acc.contains n = false := by
          rw [Bool.eq_false_iff]
          intro h
          rw [List.contains_iff_mem] at h
          have := HNO.out
          rw [List.take_of_length_le (by omega)] at this
          exact this h
        simp only [this, Bool.false_and])
      clear hlt hk
      go_wp2_with fail
      go_ret
      exact ⟨by rw [HF.out]; rfl, HBL1.out⟩
end Go.Proofs.YtkkadknijjninaaDoor
