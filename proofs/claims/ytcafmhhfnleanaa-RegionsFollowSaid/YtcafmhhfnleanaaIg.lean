/- RegionsLowest: the walk. -/
import Derived.Test.YtcafmhhfnleanaaIf
import Derived.Test.YtcafmhhfnleanaaId
namespace Go.Proofs.Ytcafmhhfnleanaa
open Go.RowKit Go.Sort

theorem infoU64 : (Try.prog.info? 23).map (fun i => (i.zero, i.size, i.bytes)) = some (some (.int .u64 0), 1, 8) := by kernel_rfl
def metB (size t : Int) (l : List RG) : Bool := l.any (meetB size t)
theorem met_take (size t : Int) (l : List RG) (k : Nat) (h : k < l.length) : metB size t (l.take (k + 1)) = (metB size t (l.take k) || meetB size t l[k]) := by
  unfold metB
  rw [List.take_succ_eq_append_getElem h, List.any_append]
  simp

theorem grown_low1 {w w' : World} {base e n : Nat} {v : Value} {xs : List Value} (h : w.ownsRow base e 1 v n xs) (hg : w.grownBy w' v.ownBlock) {B : Nat} {w0 : World} (hb : Below B w0 w) (hB : B ≤ base) (hs : B ≤ w.heap.size) : Below B w0 w' :=
  hb.grown hg hs (fun k hk => by have := (h.lt k hk).1; omega)
set_option maxHeartbeats 4000000 in
set_option maxRecDepth 100000 in
theorem regionsLowest_walk (a : Option Addr) (len cap : Nat) (l : List RG) (size low : Int) (w : World) (hA : Rgs w a len l) (hok : ∀ x ∈ l, RGok x) (s0 : 0 ≤ size) (s1 : size ≤ 18446744073709551615) (l0 : 0 ≤ low) (l1 : low ≤ 18446744073709551615) :
    Calls Try.prog 8 #[.slice a len cap, .int .u64 size, .int .u64 low] w fun e w' => e = .returned (.bool true) ∧ Below w.heap.size w w' := by
  obtain rfl := hA.hlen
  have HA := hid hA
  have HO := hid hok
  clear hA hok
  by_cases h3 : 300 < l.length
  · have d0 : decide ((300 : Int) < (l.length : Int)) = true := by simp; omega
    go_enter Try.func8, Try.ntmps8
    go_wp2_with (first | (go_at_call 9; refine (large_any _ _ _ _).mono ?_; rintro e' w' ⟨rfl, rfl⟩) | (go_at_call 10; refine (works_any _).mono ?_; rintro e' w' ⟨rfl, hw⟩))
    go_ret
    exact ⟨rfl, hw⟩
  · have d0 : decide ((300 : Int) < (l.length : Int)) = false := by simp; omega
    have hl : l.length ≤ 300 := by omega
    go_enter Try.func8, Try.ntmps8
    go_wp2_with (go_at_call 9; refine (large_any _ _ _ _).mono ?_; rintro e' w' ⟨rfl, rfl⟩)
    refine (gap_any _ _ _ l size low _ HA.out (by omega) HO.out s0 s1 l0 l1).mono ?_
    rintro e' w1 ⟨rfl, hb⟩
    have HB1 := hid hb
    have HA1 := hid (HA.out.below hb)
    clear hb
    by_cases he : gapE l size low = 0
    · have HL := hid (low_of he s0 l0)
      rw [he]
      generalize gapV l size low = g at *
      have hg1 := HL.out.ge
      have hg2 := HL.out.page
      have hg3 := HL.out.s0
      have hg4 := HL.out.s1
      have hg5 := HL.out.fit
      have hg0 : 0 ≤ g := by omega
      clear he
      go_wp2_with fail
      go_loopw [9] (fun i wr => ∃ k : Nat, k ≤ l.length ∧ i = .int .i64 k ∧ Below w1.heap.size w1 wr) (fun i _ => l.length - (intOf i).toNat)
      case atStart => exact ⟨0, Nat.zero_le _, rfl, Below.refl _ _⟩
      case round =>
        obtain ⟨k, hk, rfl, hb⟩ := hrel
        have HBr := hid hb
        have HAr := hid (HA1.out.below hb)
        clear hb
        by_cases hlt : k < l.length
        · have d1 : decide ((k : Int) < (l.length : Int)) = true := by simp; omega
          have d1n : decide (k < l.length) = true := by simp; omega
          obtain ⟨ba, oa, rfl, hca⟩ := HAr.out.cell k hlt
          obtain ⟨y0, y1, y2, y3, y4⟩ := hca
          have hlb := World.block_lt_of_cell? _ _ y0
          have hfr := HL.out.free _ (List.getElem_mem hlt)
          have hokx := HO.out _ (List.getElem_mem hlt)
          generalize l[k] = y at *
          have o1 := hokx.f0
          have o2 := hokx.t0
          rcases hfr with hfr | hfr
          · go_wp2_with fail
            go_roundw
            case rel => exact ⟨k + 1, by omega, by go_num, HBr.out⟩
            case measure => simp [intOf]; omega
          · go_wp2_with fail
            all_goals
              go_roundw
              case rel => exact ⟨k + 1, by omega, by go_num, HBr.out⟩
              case measure => simp [intOf]; omega
        · have d1 : decide ((k : Int) < (l.length : Int)) = false := by simp; omega
          have d1n : decide (k < l.length) = false := by simp; omega
          by_cases hgl : g = low
          · have q1 : (g == low) = true := by simpa using hgl
            have HG := hid hgl
            clear hgl
            go_wp2_with (go_at_call 10; refine (works_any _).mono ?_; rintro e' w' ⟨rfl, hw⟩)
            go_ret
            exact ⟨rfl, bthen (bthen HB1.out HBr.out) hw⟩
          · have q1 : (g == low) = false := by simpa using hgl
            have hgl2 : low < g := by omega
            rename World => wA
            have HT := hid (show (wA.alloc (.cells #[.int .u64 low] 23)).ownsRow w.heap.size 23 1 (.slice (some ⟨wA.heap.size, 0, none⟩) 1 1) 1 ([low].map (Value.int .u64)) from (Row.new wA 23 [.int .u64 low]).owns (bthen HB1.out HBr.out).size rfl (Nat.le_refl _) (by simp [maxLen]))
            have HBA := hid (bal2 (bthen HB1.out HBr.out) (.cells #[.int .u64 low] 23))
            go_wp2_with fail
            go_loopw [10, 11] (fun v i wr => ∃ (sv : Value) (k : Nat) (ts : List Int), sv = v ∧ k ≤ l.length ∧ i = .int .i64 k ∧ wr.ownsRow w.heap.size 23 1 sv ts.length (ts.map (Value.int .u64)) ∧ (∀ t ∈ ts, low ≤ t ∧ t < g) ∧ ts.length ≤ k + 1 ∧ Below w.heap.size w wr) (fun _ i _ => l.length - (intOf i).toNat)
            case atStart => exact ⟨_, 0, [low], rfl, Nat.zero_le _, rfl, HT.out, (fun t ht => by simp only [List.mem_singleton] at ht; subst ht; omega), by simp, HBA.out⟩
            case round =>
              obtain ⟨sv, k2, ts, hsv, hk2, rfl, ho, hts, htl, hb⟩ := hrel
              subst hsv
              have HOw := hid ho
              have HTS := hid hts
              have HBr2 := hid hb
              have HAr2 := hid (HA.out.below hb)
              obtain ⟨ta, tc, rfl, hnum⟩ := own_nums ho
              have HNM := hid hnum
              clear ho hts hb hnum
              by_cases hlt2 : k2 < l.length
              · have d2 : decide ((k2 : Int) < (l.length : Int)) = true := by simp; omega
                have d2n : decide (k2 < l.length) = true := by simp; omega
                obtain ⟨ba, oa, rfl, hca⟩ := HAr2.out.cell k2 hlt2
                obtain ⟨y0, y1, y2, y3, y4⟩ := hca
                have hlb := World.block_lt_of_cell? _ _ y0
                generalize l[k2] = y at *
                have HOa := hid (fun o => HOw.out.alloc o)
                have HLb := hid (fun o => show w.heap.size ≤ (wr.alloc o).heap.size by have := HBr2.out.size; simp only [World.size_alloc]; omega)
                have HN1 := hid (news_one wr (.int .u64 y.to) 23)
                have HL1 := hid (show ts.length + 1 ≤ maxLen by unfold maxLen; omega)
                have HL2 := hid (show (ts.length + 1) * 8 ≤ 140737488355328 by omega)
                obtain ⟨i0, hi, hz0, hz1, hz2⟩ := info_parts infoU64
                by_cases c1 : low < y.to
                · by_cases c2 : y.to < g
                  · go_wp2_with (at_builtin; go_must (refine wpList_append_own _ rfl _ _ 51 rfl w.heap.size 23 i0 (.int .u64 0) 1 8 Try.underlying51 hi hz0 hz1 hz2 rfl (by decide) (.slice ta ts.length tc) ts.length (ts.map (Value.int .u64)) rfl (HOa.out _) ⟨wr.heap.size, 0, none⟩ 1 1 [.int .u64 y.to] rfl rfl HN1.out (ones_one _ _) HL1.out HL2.out (HLb.out _) ?_; intro v2 w2 hown' hgrow _; have HO2 := hid hown'; have HB2 := hid (grown_low1 (HOa.out _) hgrow (bal2 HBr2.out _) (Nat.le_refl _) (HLb.out _)); clear hown' hgrow))
                    go_wp2_with fail
                    go_roundw
                    case rel => exact ⟨_, k2 + 1, ts ++ [y.to], rfl, by omega, by go_num, by simpa using HO2.out, (fun t ht => by
                      rcases List.mem_append.1 ht with h | h
                      · exact HTS.out t h
                      · simp only [List.mem_singleton] at h; subst h; exact ⟨by omega, c2⟩), by simp; omega, HB2.out⟩
                    case measure => simp [intOf]; omega
                  · go_wp2_with fail
                    go_roundw
                    case rel => exact ⟨_, k2 + 1, ts, rfl, by omega, by go_num, HOw.out, HTS.out, by omega, HBr2.out⟩
                    case measure => simp [intOf]; omega
                · go_wp2_with fail
                  go_roundw
                  case rel => exact ⟨_, k2 + 1, ts, rfl, by omega, by go_num, HOw.out, HTS.out, by omega, HBr2.out⟩
                  case measure => simp [intOf]; omega
              · have d2 : decide ((k2 : Int) < (l.length : Int)) = false := by simp; omega
                have d2n : decide (k2 < l.length) = false := by simp; omega
                rename World => wB
                have hsB := HBr2.out.size
                go_wp2_with fail
                go_loopw [12] (fun i wr => ∃ j : Nat, j ≤ ts.length ∧ i = .int .i64 j ∧ Below wB.heap.size wB wr) (fun i _ => ts.length - (intOf i).toNat)
                case atStart => exact ⟨0, Nat.zero_le _, rfl, Below.refl _ _⟩
                case round =>
                  obtain ⟨j, hj, rfl, hb⟩ := hrel
                  have HBr3 := hid hb
                  have HNMr := hid (HNM.out.below' hb)
                  have HAr3 := hid (HAr2.out.below hb)
                  clear hb
                  by_cases hjt : j < ts.length
                  · have d3 : decide ((j : Int) < (ts.length : Int)) = true := by simp; omega
                    have d3n : decide (j < ts.length) = true := by simp; omega
                    have htj := HTS.out _ (List.getElem_mem hjt)
                    obtain ⟨bt, ot, rfl, hct⟩ := HNMr.out.cell j hjt
                    have hmeet := HL.out.meets _ htj.1 htj.2
                    have HCT := hid hct
                    generalize ts[j] = t at *
                    have hmt := hid (show metB size t l = true by
                      obtain ⟨x, hx, h⟩ := hmeet
                      exact List.any_eq_true.2 ⟨x, hx, h⟩)
                    obtain ⟨ht1, ht2⟩ := htj
                    clear hct hmeet
                    rename World => wC
                    go_wp2_with fail
                    go_loopw [13, 14] (fun m i wr => ∃ k : Nat, k ≤ l.length ∧ i = .int .i64 k ∧ m = .bool (metB size t (l.take k)) ∧ Below wC.heap.size wC wr) (fun _ i _ => l.length - (intOf i).toNat)
                    case atStart => exact ⟨0, Nat.zero_le _, rfl, rfl, Below.refl _ _⟩
                    case round =>
                      obtain ⟨k3, hk3, rfl, rfl, hb⟩ := hrel
                      have HBr4 := hid hb
                      have HAr4 := hid (HAr3.out.below hb)
                      have tcell := keepC hb HCT.out
                      have hlt2 := World.block_lt_of_cell? _ _ tcell
                      clear hb
                      by_cases hlt3 : k3 < l.length
                      · have d4 : decide ((k3 : Int) < (l.length : Int)) = true := by simp; omega
                        have d4n : decide (k3 < l.length) = true := by simp; omega
                        obtain ⟨ba, oa, rfl, hca⟩ := HAr4.out.cell k3 hlt3
                        obtain ⟨y0, y1, y2, y3, y4⟩ := hca
                        have hlb := World.block_lt_of_cell? _ _ y0
                        have HMT := hid (met_take size t l k3 hlt3)
                        generalize l[k3] = y at *
                        have ez : (0 : Int) ≤ (k3 : Int) := by omega
                        have eb : (k3 : Int) < (l.length : Int) := by omega
                        have ez2 : (0 : Int) ≤ (j : Int) := by omega
                        have eb2 : (j : Int) < (ts.length : Int) := by omega
                        have HEW := hid (IntWalk.u64_in (t + size) (by omega))
                        cases hm : metB size t (l.take k3)
                        · rw [hm] at HMT
                          by_cases c1 : y.fr < t + size
                          · by_cases c2 : t < y.to
                            · have f1 : decide (y.fr < t + size) = true := decide_eq_true c1
                              have f2 : decide (t < y.to) = true := decide_eq_true c2
                              have HF := hid (show metB size t (l.take (k3 + 1)) = true by rw [HMT.out]; unfold meetB; rw [f1, f2]; rfl)
                              clear hm
                              have ew := HEW.out
                              go_wp2_with fail
                              go_quiet (fail)
                              clear ew
                              go_wp2_with fail
                              go_roundw
                              case rel => exact ⟨k3 + 1, by omega, by go_num, by rw [HF.out], bdN HBr4.out _⟩
                              case measure => simp [intOf]; omega
                            · have f1 : decide (y.fr < t + size) = true := decide_eq_true c1
                              have f2 : decide (t < y.to) = false := decide_eq_false c2
                              have HF := hid (show metB size t (l.take (k3 + 1)) = false by rw [HMT.out]; unfold meetB; rw [f1, f2]; rfl)
                              clear hm
                              have ew := HEW.out
                              go_wp2_with fail
                              go_quiet (fail)
                              clear ew
                              go_wp2_with fail
                              go_roundw
                              case rel => exact ⟨k3 + 1, by omega, by go_num, by rw [HF.out], bdN HBr4.out _⟩
                              case measure => simp [intOf]; omega
                          · have f1 : decide (y.fr < t + size) = false := decide_eq_false c1
                            have HF := hid (show metB size t (l.take (k3 + 1)) = false by rw [HMT.out]; unfold meetB; rw [f1]; rfl)
                            clear hm
                            have ew := HEW.out
                            go_wp2_with fail
                            go_quiet (fail)
                            clear ew
                            go_wp2_with fail
                            go_roundw
                            case rel => exact ⟨k3 + 1, by omega, by go_num, by rw [HF.out], bdN HBr4.out _⟩
                            case measure => simp [intOf]; omega
                        · rw [hm] at HMT
                          have HF := hid (show metB size t (l.take (k3 + 1)) = true by rw [HMT.out]; rfl)
                          clear hm
                          go_wp2_with fail
                          go_quiet (fail)
                          go_wp2_with fail
                          go_roundw
                          case rel => exact ⟨k3 + 1, by omega, by go_num, by rw [HF.out], bdN HBr4.out _⟩
                          case measure => simp [intOf]; omega
                      · have d4 : decide ((k3 : Int) < (l.length : Int)) = false := by simp; omega
                        have d4n : decide (k3 < l.length) = false := by simp; omega
                        obtain rfl : k3 = l.length := by omega
                        rw [List.take_length, hmt.out]
                        have HBF := hid (bthen HBr3.out HBr4.out)
                        go_wp2_with fail
                        go_roundw
                        case rel => exact ⟨j + 1, by omega, by go_num, HBF.out⟩
                        case measure => simp [intOf]; omega
                  · have d3 : decide ((j : Int) < (ts.length : Int)) = false := by simp; omega
                    have d3n : decide (j < ts.length) = false := by simp; omega
                    go_wp2_with (go_at_call 10; refine (works_any _).mono ?_; rintro e' w' ⟨rfl, hw⟩)
                    go_ret
                    exact ⟨rfl, bthen (bthen HBr2.out HBr3.out) hw⟩
    · have hv := low_not he
      rw [hv]
      have q1 : (gapE l size low != 0) = true := by simpa using he
      generalize gapE l size low = ge at *
      go_wp2_with (go_at_call 10; refine (works_any _).mono ?_; rintro e' w' ⟨rfl, hw⟩)
      go_ret
      exact ⟨rfl, bthen HB1.out hw⟩
end Go.Proofs.Ytcafmhhfnleanaa
