/- The reference's Cut and Protect. -/
import Derived.Test.YtcafmhhfnleanaaIp
import Derived.Test.YtcafmhhfnleanaaIi
import Derived.Deep.RegionHeld3
import Derived.Deep.CutRange
namespace Go.Proofs.Ytcafmhhfnleanaa
open Go.RowKit Go.Sort

def rcutE (l : List RG) (f t : Int) : Int := if rightB l && strB f t then fewE (woR l f t) else 1
def rcutL (l : List RG) (f t : Int) : List RG := if rightB l && strB f t then fewL (woR l f t) else []

set_option maxHeartbeats 4000000 in
theorem rcut_any (a : Option Addr) (len cap : Nat) (l : List RG) (f t : Int) (w : World) (hA : Rgs w a len l) (hl : len ≤ 300) (hok : ∀ x ∈ l, RGok x) (f0 : 0 ≤ f) (t0 : 0 ≤ t) :
    Calls Try.prog 24 #[.slice a len cap, .int .u64 f, .int .u64 t] w fun e w' => ∃ v, e = .returned (.tuple #[v, .int .i64 (rcutE l f t)]) ∧ w'.ownsRow w.heap.size 25 5 v (rcutL l f t).length (flat5 (rcutL l f t)) ∧ Below w.heap.size w w' := by
  obtain rfl := hA.hlen
  have HA := hid hA
  have HO := hid hok
  clear hA hok
  go_enter Try.func24, Try.ntmps24
  go_wp2_with fail
  refine (rstretch_any _ _ _ l f t _ HA.out hl HO.out f0 t0).mono ?_
  rintro e' w1 ⟨rfl, hb1⟩
  have HB1 := hid hb1
  have HA1 := hid (HA.out.below hb1)
  clear hb1
  cases hq : (rightB l && strB f t)
  · have hP := hid (show rcutE l f t = 1 ∧ rcutL l f t = [] by unfold rcutE rcutL; rw [hq]; exact ⟨rfl, rfl⟩)
    clear hq
    go_wp2_with fail
    go_ret2
    rw [hP.out.1, hP.out.2]
    exact ⟨_, rfl, own_rgs_nil, HB1.out⟩
  · have hP := hid (show rcutE l f t = fewE (woR l f t) ∧ rcutL l f t = fewL (woR l f t) by unfold rcutE rcutL; rw [hq]; exact ⟨rfl, rfl⟩)
    clear hq
    go_wp2_with fail
    refine (without_any _ _ cap l f t _ HA1.out hl).mono ?_
    rintro e' w3 ⟨v3, rfl, ho3, hb3⟩
    have HB3 := hid (bthen HB1.out hb3)
    obtain ⟨a3, c3, rfl, _⟩ := own_rgs ho3
    have HO3 := hid ho3
    clear hb3 ho3
    go_wp2_with fail
    refine (few_any _ _ _ _ _ HO3.out).mono ?_
    rintro e' w4 ⟨v4, rfl, ho4, rfl⟩
    have HO4 := hid ho4
    have hzs := HB1.out.size
    clear ho4
    go_wp2_with fail
    go_ret2
    rw [hP.out.1, hP.out.2]
    exact ⟨_, rfl, own_from HO4.out hzs, HB3.out⟩

/-- The part of a region that is turned. -/
def midR (x : RG) (f t q : Int) : RG := protR q (partW x (mx x.fr f) (mn x.to t))
def midStep (f t q : Int) (L : List RG) (x : RG) : List RG := if x.to ≤ f ∨ t ≤ x.fr then L else srtR (midR x f t q) L
def midAll (l : List RG) (f t q : Int) (L : List RG) : List RG := l.foldl (midStep f t q) L
theorem midStep_len (f t q : Int) (L : List RG) (x : RG) : (midStep f t q L x).length ≤ L.length + 1 := by
  unfold midStep
  split
  · omega
  · rw [srtR_len]; omega
theorem midAll_len (l : List RG) (f t q : Int) (L : List RG) : (midAll l f t q L).length ≤ L.length + l.length := by
  induction l generalizing L with
  | nil => exact Nat.le_refl _
  | cons x l ih =>
    have h1 := midStep_len f t q L x
    have h2 := ih (midStep f t q L x)
    show (midAll l f t q (midStep f t q L x)).length ≤ _
    simp only [List.length_cons]
    omega
theorem midAll_take (l : List RG) (f t q : Int) (L : List RG) (k : Nat) (h : k < l.length) : midAll (l.take (k + 1)) f t q L = midStep f t q (midAll (l.take k) f t q L) l[k] := by
  unfold midAll
  rw [List.take_succ_eq_append_getElem h, List.foldl_append]
  rfl
def rproE (l : List RG) (f t q : Int) : Int := if rightB l && strB f t && decide (q ≤ 7) then (if covB l f t then fewE (joinR (midAll l f t q (woR l f t))) else 6) else 1
def rproL (l : List RG) (f t q : Int) : List RG := if rightB l && strB f t && decide (q ≤ 7) then (if covB l f t then fewL (joinR (midAll l f t q (woR l f t))) else []) else []

theorem part_at (x p : RG) (f t : Int) (hp : p = partW x (mx x.fr f) (mn x.to t)) : ∀ (A B : Int) (w' : World), mx x.fr f = A → mn x.to t = B →
    Calls Try.prog 48 #[rgV x, .int .u64 A, .int .u64 B] w' fun e w'' => e = .returned (rgV p) ∧ Below w'.heap.size w' w'' := by
  rintro A B w' rfl rfl
  subst hp
  exact rpart_any x _ _ w'
theorem st_sz {W w : World} (h : St W w) : W.heap.size ≤ w.heap.size := h.size
theorem St_ad (W : World) (o : Obj) : St W (W.alloc o).drew := (bal o).drew
theorem St_setC {W w : World} {b o : Nat} {v : Value} (h : W.heap.size ≤ b) : St W (w.setCell ⟨b, o, none⟩ v) = St W w := by
  apply propext
  constructor
  · intro k
    have k' : Below W.heap.size W (w.setCell ⟨b, o, none⟩ v) := k
    exact ⟨k'.os, k'.tape, k'.output, by have := k'.size; rwa [World.size_setCell] at this, fun i hi => by
      have h1 := k'.block i hi
      rwa [heap_setCell_other w ⟨b, o, none⟩ i v (by simp only; omega)] at h1⟩
  · intro k
    exact bset (show Below W.heap.size W w from k) h v
theorem st_put5 {W w : World} {b : Nat} {v0 v1 v2 v3 v4 : Value} (h : St W w) (hb : W.heap.size ≤ b) : St W (((((w.setCell ⟨b, 0, none⟩ v0).setCell ⟨b, 1, none⟩ v1).setCell ⟨b, 2, none⟩ v2).setCell ⟨b, 3, none⟩ v3).setCell ⟨b, 4, none⟩ v4) :=
  bset (bset (bset (bset (bset (show Below W.heap.size W w from h) hb _) hb _) hb _) hb _) hb _
theorem new_rg0 {w wx : World} (hb : Below (w.alloc (.cells #[.int .u64 0, .int .u64 0, .int .u8 0, .int .i64 0, .int .u64 0] 25)).heap.size (w.alloc (.cells #[.int .u64 0, .int .u64 0, .int .u8 0, .int .i64 0, .int .u64 0] 25)) wx) : Row wx w.heap.size 25 (rgc rg0) :=
  (Row.new w 25 (rgc rg0)).bel hb
theorem new_rg0_d {w wx : World} (hb : Below (w.alloc (.cells #[.int .u64 0, .int .u64 0, .int .u8 0, .int .i64 0, .int .u64 0] 25)).drew.heap.size (w.alloc (.cells #[.int .u64 0, .int .u64 0, .int .u8 0, .int .i64 0, .int .u64 0] 25)).drew wx) : Row wx w.heap.size 25 (rgc rg0) :=
  (Row.new w 25 (rgc rg0)).drew.bel hb
theorem closeA {wr wx : World} (p : RG) (h : St wr wx) : ∃ s : Nat, Value.pointer (some ⟨wx.heap.size, 0, none⟩) = .pointer (some ⟨s, 0, none⟩) ∧ Row (wx.alloc (.cells #[.int .u64 p.fr, .int .u64 p.to, .int .u8 p.pr, .int .i64 p.ino, .int .u64 p.off] 25)) s 25 (rgc p) ∧ wr.heap.size ≤ s ∧ Below wr.heap.size wr (wx.alloc (.cells #[.int .u64 p.fr, .int .u64 p.to, .int .u8 p.pr, .int .i64 p.ino, .int .u64 p.off] 25)) :=
  ⟨_, rfl, Row.new wx _ (rgc p), h.size, bal2 (show Below wr.heap.size wr wx from h) _⟩
theorem closeB {wr wx : World} (p : RG) (h : St wr wx) (hr : Row wx wr.heap.size 25 (rgc rg0)) : ∃ s : Nat, Value.pointer (some ⟨wr.heap.size, 0, none⟩) = .pointer (some ⟨s, 0, none⟩) ∧ Row (((((wx.setCell ⟨wr.heap.size, 0, none⟩ (.int .u64 p.fr)).setCell ⟨wr.heap.size, 1, none⟩ (.int .u64 p.to)).setCell ⟨wr.heap.size, 2, none⟩ (.int .u8 p.pr)).setCell ⟨wr.heap.size, 3, none⟩ (.int .i64 p.ino)).setCell ⟨wr.heap.size, 4, none⟩ (.int .u64 p.off)) s 25 (rgc p) ∧ wr.heap.size ≤ s ∧ Below wr.heap.size wr (((((wx.setCell ⟨wr.heap.size, 0, none⟩ (.int .u64 p.fr)).setCell ⟨wr.heap.size, 1, none⟩ (.int .u64 p.to)).setCell ⟨wr.heap.size, 2, none⟩ (.int .u8 p.pr)).setCell ⟨wr.heap.size, 3, none⟩ (.int .i64 p.ino)).setCell ⟨wr.heap.size, 4, none⟩ (.int .u64 p.off)) :=
  ⟨_, rfl, hr.put p, Nat.le_refl _, bset (bset (bset (bset (bset (show Below wr.heap.size wr wx from h) (Nat.le_refl _) _) (Nat.le_refl _) _) (Nat.le_refl _) _) (Nat.le_refl _) _) (Nat.le_refl _) _⟩
theorem mx_two (a b : Int) : (a < b ∧ mx a b = b) ∨ (¬ a < b ∧ mx a b = a) := by
  unfold mx
  by_cases h : a < b
  · exact .inl ⟨h, if_pos h⟩
  · exact .inr ⟨h, if_neg h⟩
theorem mn_two (a b : Int) : (b < a ∧ mn a b = b) ∨ (¬ b < a ∧ mn a b = a) := by
  unfold mn
  by_cases h : b < a
  · exact .inl ⟨h, if_pos h⟩
  · exact .inr ⟨h, if_neg h⟩

set_option maxHeartbeats 4000000 in
theorem rprotect_any (a : Option Addr) (len cap : Nat) (l : List RG) (f t q : Int) (w : World) (hA : Rgs w a len l) (hl : len ≤ 300) (hok : ∀ x ∈ l, RGok x) (f0 : 0 ≤ f) (t0 : 0 ≤ t) :
    Calls Try.prog 26 #[.slice a len cap, .int .u64 f, .int .u64 t, .int .u8 q] w fun e w' => ∃ v, e = .returned (.tuple #[v, .int .i64 (rproE l f t q)]) ∧ w'.ownsRow w.heap.size 25 5 v (rproL l f t q).length (flat5 (rproL l f t q)) ∧ Below w.heap.size w w' := by
  obtain rfl := hA.hlen
  have HA := hid hA
  have HO := hid hok
  clear hA hok
  go_enter Try.func26, Try.ntmps26
  go_wp2_with fail
  refine (rstretch_any _ _ _ l f t _ HA.out hl HO.out f0 t0).mono ?_
  rintro e' w1 ⟨rfl, hb1⟩
  have HB1 := hid hb1
  have HA1 := hid (HA.out.below hb1)
  clear hb1
  cases hq : (rightB l && strB f t)
  · have hP := hid (show rproE l f t q = 1 ∧ rproL l f t q = [] by unfold rproE rproL; rw [hq]; exact ⟨rfl, rfl⟩)
    clear hq
    go_wp2_with fail
    go_ret2
    rw [hP.out.1, hP.out.2]
    exact ⟨_, rfl, own_rgs_nil, HB1.out⟩
  · have HQ := hid hq
    clear hq
    by_cases h7 : 7 < q
    · have hP := hid (show rproE l f t q = 1 ∧ rproL l f t q = [] by unfold rproE rproL; rw [show decide (q ≤ 7) = false from decide_eq_false (by omega), Bool.and_false]; exact ⟨rfl, rfl⟩)
      go_wp2_with fail
      go_ret2
      rw [hP.out.1, hP.out.2]
      exact ⟨_, rfl, own_rgs_nil, HB1.out⟩
    · have h7' := hid (show decide (q ≤ 7) = true from decide_eq_true (by omega))
      go_wp2_with fail
      refine (covered_any _ _ _ l f t _ HA1.out hl).mono ?_
      rintro e' w2 ⟨rfl, hb2⟩
      have HB2 := hid (bthen HB1.out hb2)
      have HA2 := hid (HA1.out.below hb2)
      clear hb2
      cases hc : covB l f t
      · have hP := hid (show rproE l f t q = 6 ∧ rproL l f t q = [] by unfold rproE rproL; rw [HQ.out, h7'.out, hc]; exact ⟨rfl, rfl⟩)
        clear hc
        go_wp2_with fail
        go_ret2
        rw [hP.out.1, hP.out.2]
        exact ⟨_, rfl, own_rgs_nil, HB2.out⟩
      · have hP := hid (show rproE l f t q = fewE (joinR (midAll l f t q (woR l f t))) ∧ rproL l f t q = fewL (joinR (midAll l f t q (woR l f t))) by unfold rproE rproL; rw [HQ.out, h7'.out, hc]; exact ⟨rfl, rfl⟩)
        clear hc
        go_wp2_with fail
        refine (without_any _ _ cap l f t _ HA2.out hl).mono ?_
        rintro e' w3 ⟨v3, rfl, ho3, hb3⟩
        have HB3 := hid (bthen HB2.out hb3)
        have HA3 := hid (HA2.out.below hb3)
        have HO3 := hid (own_from ho3 HB2.out.size)
        have hwl := woR_len l f t
        clear hb3 ho3
        have hml := fun k => midAll_len (l.take k) f t q (woR l f t)
        have hll : ∀ k, (midAll (l.take k) f t q (woR l f t)).length ≤ 1000 := fun k => by
          have h1 := hml k
          have h2 : (l.take k).length ≤ 300 := by simp; omega
          omega
        have HLL := hid hll
        clear hml hll hwl
        generalize woR l f t = L at *
        go_wp2_with fail
        go_loopw [10, 11] (fun v i wr => ∃ (sv : Value) (k : Nat), sv = v ∧ k ≤ l.length ∧ i = .int .i64 k ∧ wr.ownsRow w.heap.size 25 5 sv (midAll (l.take k) f t q L).length (flat5 (midAll (l.take k) f t q L)) ∧ Below w.heap.size w wr) (fun _ i _ => l.length - (intOf i).toNat)
        case atStart => exact ⟨_, 0, rfl, Nat.zero_le _, rfl, HO3.out, HB3.out⟩
        case round =>
          obtain ⟨sv, k, hsv, hk, rfl, ho, hb⟩ := hrel
          subst hsv
          have HOw := hid ho
          have HB := hid hb
          by_cases hlt : k < l.length
          · have d1 : decide ((k : Int) < (l.length : Int)) = true := by simp; omega
            have d1n : decide (k < l.length) = true := by simp; omega
            obtain ⟨b, off, rfl, hcell⟩ := HA.out.some_of (by omega)
            have HY := hid ((hcell k hlt).below hb)
            obtain ⟨y0, y1, y2, y3, y4⟩ := HY.out
            have hlb := World.block_lt_of_cell? _ _ y0
            have HT := hid (midAll_take l f t q L k hlt)
            have hln := HLL.out k
            have ez : (0 : Int) ≤ (k : Int) := by omega
            have eb : (k : Int) < (l.length : Int) := by omega
            clear hb hcell ho
            generalize l[k] = x at *
            generalize midAll (l.take k) f t q L = acc at *
            by_cases h1 : x.to ≤ f ∨ t ≤ x.fr
            · have HM := hid (show midStep f t q acc x = acc by unfold midStep; rw [if_pos h1])
              rcases h1 with h1 | h1
              all_goals
                go_wp2_with fail
                all_goals
                  go_roundw
                  case rel => exact ⟨_, k + 1, rfl, by omega, by go_num, by rw [HT.out, HM.out]; exact HOw.out, HB.out⟩
                  case measure => simp [intOf]; omega
            · have HM := hid (show midStep f t q acc x = srtR (midR x f t q) acc by unfold midStep; rw [if_neg h1])
              have n1 : f < x.to := by omega
              have n2 : x.fr < t := by omega
              clear h1
              go_wp2_with fail
              obtain ⟨p, hp⟩ : ∃ p, p = partW x (mx x.fr f) (mn x.to t) := ⟨_, rfl⟩
              have HPM := hid (show midR x f t q = protR q p by rw [hp]; rfl)
              have HC := hid (part_at x p f t hp)
              clear hp
              go_cut [12] from 53 to 71 (fun s12 wc => ∃ s : Nat, s12 = .pointer (some ⟨s, 0, none⟩) ∧ Row wc s 25 (rgc p) ∧ wr.heap.size ≤ s ∧ Below wr.heap.size wr wc)
              case first =>
                rename_i J K' hJ hK'
                have z0 : ∀ w', St wr w' → w'.cell? ⟨b, off + k * 5, none⟩ = some (.int .u64 x.fr) := fun w' hs => keepC hs y0
                have z1 : ∀ w', St wr w' → w'.cell? ⟨b, off + k * 5 + 1, none⟩ = some (.int .u64 x.to) := fun w' hs => keepC hs y1
                have z2 : ∀ w', St wr w' → w'.cell? ⟨b, off + k * 5 + 2, none⟩ = some (.int .u8 x.pr) := fun w' hs => keepC hs y2
                have z3 : ∀ w', St wr w' → w'.cell? ⟨b, off + k * 5 + 3, none⟩ = some (.int .i64 x.ino) := fun w' hs => keepC hs y3
                have z4 : ∀ w', St wr w' → w'.cell? ⟨b, off + k * 5 + 4, none⟩ = some (.int .u64 x.off) := fun w' hs => keepC hs y4
                clear y0 y1 y2 y3 y4
                rcases mx_two x.fr f with ⟨c1, e1⟩ | ⟨c1, e1⟩ <;> rcases mn_two x.to t with ⟨c2, e2⟩ | ⟨c2, e2⟩
                all_goals
                  have E1 := hid e1
                  have E2 := hid e2
                  clear e1 e2
                  go_region_held3 (St wr) (first | (simp only [St_setC, Nat.le_refl]; with_reducible exact HSX.out) | with_reducible exact St.drew _ | with_reducible exact St_ad _ _ | with_reducible exact HSX.out | with_reducible exact St.step (by assumption) (bal _) | with_reducible exact St.step HSX.out (bal _)) (first | (go_at_call 48; go_must (refine ((HC.out _ _ _ E1.out E2.out).mono ?_)); rintro e' wx ⟨rfl, hbx⟩; have HBX := hid hbx; have HSX : Hid (St wr wx) := hid (St.step (by assumption) hbx); have hzx := st_sz HSX.out; (first | (have rw6 := (by first | with_reducible exact new_rg0 hbx | with_reducible exact new_rg0_d hbx : Row _ _ 25 (rgc rg0)); have c60 := rw6.cell 0 (by simp [rgc]); have c61 := rw6.cell 1 (by simp [rgc]); have c62 := rw6.cell 2 (by simp [rgc]); have c63 := rw6.cell 3 (by simp [rgc]); have c64 := rw6.cell 4 (by simp [rgc]); simp only [rgc, rg0, List.getElem_cons_zero, List.getElem_cons_succ] at c60 c61 c62 c63 c64; obtain ⟨f60, f61, f62, f63, f64⟩ := rw6.fiveF; have l6 := rw6.lt; have HRW6 := hid rw6; clear rw6) | skip); clear z0 z1 z2 z3 z4))
                  all_goals (first | refine hJ _ _ ?_ | (refine Met.intro ?_; refine hJ _ _ ?_) | (refine Met.intro ?_; go_step; refine hJ _ _ ?_) | (go_step; refine hJ _ _ ?_))
                  all_goals ((repeat apply Exists.intro); refine ⟨?_, rfl⟩)
                  all_goals (first | with_reducible exact closeA p HSX.out | with_reducible exact closeB p HSX.out HRW6.out)
              case rest =>
                obtain ⟨s, rfl, hrow, hs, hbc⟩ := hcut
                have HBc := hid (bthen HB.out hbc)
                have hne : some s ≠ sv.ownBlock := fun h => by have := (HOw.out.lt s h.symm).2; omega
                have HOc := hid (own_setOther (own_below HOw.out hbc) hne (.int .u8 q) (o := 2))
                have HRs := hid (show Row (wc.setCell ⟨s, 2, none⟩ (.int .u8 q)) s 25 (rgc (protR q p)) from hrow.set 2 (.int .u8 q))
                have HBs := hid (bset HBc.out (show w.heap.size ≤ s from Nat.le_trans HB.out.size hs) (.int .u8 q) (o := 2))
                obtain ⟨c0, c1, c2, c3, c4⟩ := hrow.c5
                have f2 := hrow.frozen 2
                obtain ⟨a4, c4', rfl, hg4, _⟩ := own_rgs HOc.out
                have HG4 := hid hg4
                have hls := hrow.lt
                clear hrow hbc hg4 y0 y1 y2 y3 y4
                go_wp2_with fail
                refine (sorted_any _ _ _ _ (protR q p) _ HG4.out (by omega)).mono ?_
                rintro e' w5 ⟨v5, rfl, ho5, hb5⟩
                have HO5 := hid (own_from ho5 HBs.out.size)
                have HB5 := hid (bthen HBs.out hb5)
                clear ho5 hb5
                go_wp2_with fail
                go_roundw
                case rel => exact ⟨_, k + 1, rfl, by omega, by go_num, by rw [HT.out, HM.out, HPM.out]; exact HO5.out, HB5.out⟩
                case measure => simp [intOf]; omega
          · have d1 : decide ((k : Int) < (l.length : Int)) = false := by simp; omega
            have d1n : decide (k < l.length) = false := by simp; omega
            obtain rfl : k = l.length := by omega
            rw [List.take_length] at ho
            obtain ⟨a4, c4, rfl, hg4, _⟩ := own_rgs ho
            have HG4 := hid hg4
            have hln := HLL.out l.length
            rw [List.take_length] at hln
            clear hb ho HOw hg4
            go_wp2_with fail
            refine (joined_any _ _ _ _ _ HG4.out (by omega)).mono ?_
            rintro e' w5 ⟨v5, rfl, ho5, hb5⟩
            have HB5 := hid (bthen HB.out hb5)
            obtain ⟨a5, c5, rfl, _⟩ := own_rgs ho5
            have HO5 := hid ho5
            have hzs := HB.out.size
            clear hb5 ho5
            go_wp2_with fail
            refine (few_any _ _ _ _ _ HO5.out).mono ?_
            rintro e' w6 ⟨v6, rfl, ho6, rfl⟩
            have HO6 := hid ho6
            clear ho6
            go_wp2_with fail
            go_ret2
            rw [hP.out.1, hP.out.2]
            exact ⟨_, rfl, own_from HO6.out hzs, HB5.out⟩
end Go.Proofs.Ytcafmhhfnleanaa
