/- The reference: defines, Lookup. -/
import Derived.Test.YtblefgkhikfmhaaSyH
namespace Go.Proofs.Ytblefgkhikfmhaa
open Go.RowKit Go.Sort Go.Shelf
attribute [local go_sem] Oper.semAt_some

set_option maxHeartbeats 4000000 in
theorem rdefines_any (s : SY) (w : World) : Calls Try.prog 21 #[syV s] w fun e w' => e = .returned (.bool s.is) ∧ Below w.heap.size w w' := by
  obtain ⟨nm, vl, sz, bd, df⟩ := s
  simp only [syV]
  go_enter Try.func21, Try.ntmps21
  cases df
  · go_wp2_with fail
    refine bodyPost_ret (results_tmp rfl _ _ _) rfl ⟨rfl, bal _⟩
  · by_cases hb : bd = 0
    · subst hb
      go_wp2_with fail
      refine bodyPost_ret (results_tmp rfl _ _ _) rfl ⟨rfl, bal _⟩
    · have hb0 : (bd == 0) = false := by simpa using hb
      have HI := hid (show SY.is ⟨nm, vl, sz, bd, true⟩ = true by simp [SY.is, hb])
      go_wp2_with fail
      refine bodyPost_ret (results_tmp rfl _ _ _) rfl ⟨?_, bal _⟩
      rw [HI.out]; simp; exact hb

set_option maxHeartbeats 4000000 in
theorem rlookup_any (a : Option Addr) (len cap : Nat) (xs : List OB) (nm : BL) (w : World) (hO : Objs w a len xs) (hl : len ≤ 1000000000000) (hsn : ∀ x ∈ xs, x.sn ≤ 4000000000000) :
    Calls Try.prog 12 #[.slice a len cap, .string (ba nm)] w fun e w' => e = .returned (lkV (lookL (osL xs) nm)) ∧ Below w.heap.size w w' := by
  have HO := hid hO
  obtain rfl := hO.hlen
  have hol : (osL xs).length = xs.length := by simp [osL]
  have HSN := hid hsn
  have HHIT := hid (fun pre d (h1 : pre ++ [d] <+: defsL (osL xs)) (h2 : NoYet nm pre) (h3 : d.2.name = nm) => look_hit h1 h2 h3)
  clear hO hsn
  go_enter Try.func12, Try.ntmps12
  go_wp2_with fail
  go_loopw [7] (fun i wr => ∃ k : Nat, k ≤ xs.length ∧ i = .int .i64 k ∧ NoYet nm (defsAt (osL xs) k) ∧ Below w.heap.size w wr) (fun i _ => xs.length - (intOf i).toNat)
  case atStart => exact ⟨0, Nat.zero_le _, rfl, (fun x hx => by cases hx), Below.refl _ _⟩
  case round =>
    obtain ⟨k, hk, rfl, hno, hb⟩ := hrel
    have HN := hid hno
    have HB := hid hb
    clear hno
    by_cases hlt : k < xs.length
    · have d1 : decide ((k : Int) < (xs.length : Int)) = true := by simp; omega
      have HOS := hid (show (osL xs)[k]'(by rw [hol]; exact hlt) = toOS xs[k] by simp [osL])
      have hs3 := HSN.out _ (List.getElem_mem hlt)
      have HSL := hid (HO.out.sn (List.getElem_mem hlt))
      have HCE := hid (fun wz (hz : Below w.heap.size w wz) => (HO.out.below' hz).cells hlt)
      have HSY := hid (fun wz (hz : Below w.heap.size w wz) => (HO.out.below' hz).syms _ (List.getElem_mem hlt))
      have HDS := hid (show defsAt (osL xs) (k + 1) = defsAt (osL xs) k ++ defsOne k xs[k].sy by rw [defsAt_succ _ (by rw [hol]; exact hlt), HOS.out]; rfl)
      have HPR := hid (fun q (hq : q ≤ xs[k].sy.length) => show defsAt (osL xs) k ++ defsTo k xs[k].sy q <+: defsL (osL xs) from by
        have := defs_prefix (os := osL xs) (i := k) (k := q) (by rw [hol]; exact hlt) (by rw [HOS.out]; exact hq)
        rw [HOS.out] at this
        exact this)
      generalize xs[k] = x at *
      clear hb
      go_wp2_with fail
      go_loopw [8] (fun i wr => ∃ q : Nat, q ≤ x.sn ∧ i = .int .i64 q ∧ NoYet nm (defsAt (osL xs) k ++ defsTo k x.sy q) ∧ Below w.heap.size w wr) (fun i _ => x.sn - (intOf i).toNat)
      case atStart => exact ⟨0, Nat.zero_le _, rfl, by rw [defsTo_zero, List.append_nil]; exact HN.out, HB.out⟩
      case round =>
        rename World => wr
        obtain ⟨q, hq, rfl, hno, hb⟩ := hrel
        have HN := hid hno
        have HB := hid hb
        clear hno
        obtain ⟨bo, oo, rfl, _, x6, x7, x8, x9, x10⟩ := HCE.out _ hb
        replace x9 : wr.cell? ⟨bo, oo + k * 11 + 6 + 3, none⟩ = _ := x9
        clear x6 x7 x8 x10
        have hbo := World.block_lt_of_cell? wr _ x9
        dsimp only at hbo
        by_cases hqt : q < x.sn
        · have d2 : decide ((q : Int) < (x.sn : Int)) = true := by simp; omega
          have hql : q < x.sy.length := by rw [HSL.out]; exact hqt
          obtain ⟨bs, os, es, y0, y1, y2, y3, y4⟩ := sy_cells (HSY.out _ hb) hql
          have hbs := World.block_lt_of_cell? wr _ y0
          dsimp only at hbs
          have HTS := hid (defsTo_succ k x.sy hql)
          have HPQ := hid (HPR.out (q + 1) hql)
          generalize x.sy[q] = s at *
          rw [es] at x9
          go_wp2_with fail
          refine (rdefines_any s _).mono ?_
          rintro e' w3 ⟨rfl, hb3⟩
          have HB3 := hid (HB.out.trans (hb3.mono HB.out.size))
          have z9 := keepC hb3 x9
          have z0 := keepC hb3 y0
          have hbo3 := World.block_lt_of_cell? w3 _ z9
          have hbs3 := World.block_lt_of_cell? w3 _ z0
          dsimp only at hbo3 hbs3
          have hqb := ba_beq2 s.name nm
          clear hb hb3 y0 y1 y2 y3 y4 x9
          have HC1 := hid (show s.is = false → NoYet nm (defsAt (osL xs) k ++ defsTo k x.sy (q + 1)) by intro h; rw [HTS.out, h]; simpa using HN.out)
          have HC2 := hid (show s.is = true → defsAt (osL xs) k ++ defsTo k x.sy (q + 1) = (defsAt (osL xs) k ++ defsTo k x.sy q) ++ [((k, q), s)] by intro h; rw [HTS.out, h]; simp)
          cases his : s.is
          · have HC := hid (HC1.out his)
            go_wp2_with fail
            go_roundw
            case rel => exact ⟨q + 1, by omega, by go_num, HC.out, HB3.out⟩
            case measure => simp [intOf]; omega
          · have HC := hid (HC2.out his)
            by_cases hn : s.name = nm
            · rw [decide_eq_true hn] at hqb
              have HL := hid (HHIT.out _ ((k, q), s) (by rw [← HC.out]; exact HPQ.out) HN.out hn)
              clear hn
              go_wp2_with fail
              refine bodyPost_ret (v := lkV (some ((k, q), s))) (by simp [results, Try.results12, Try.f12, go_sem, lkV]) rfl ⟨by rw [HL.out], HB3.out⟩
            · rw [decide_eq_false hn] at hqb
              have HNN := hid (show NoYet nm (defsAt (osL xs) k ++ defsTo k x.sy (q + 1)) by
                rw [HC.out]; intro y hy
                rcases List.mem_append.1 hy with hy | hy
                · exact HN.out y hy
                · rw [List.mem_singleton.1 hy]; exact hn)
              clear hn
              go_wp2_with fail
              go_roundw
              case rel => exact ⟨q + 1, by omega, by go_num, HNN.out, HB3.out⟩
              case measure => simp [intOf]; omega
        · have d2 : decide ((q : Int) < (x.sn : Int)) = false := by simp; omega
          obtain rfl : q = x.sn := by omega
          clear hb
          go_wp2_with fail
          go_roundw
          case rel => exact ⟨k + 1, by omega, by go_num, by have := HN.out; rwa [← HSL.out, defsTo_full, ← HDS.out] at this, HB.out⟩
          case measure => simp [intOf]; omega
    · have d1 : decide ((k : Int) < (xs.length : Int)) = false := by simp; omega
      obtain rfl : k = xs.length := by omega
      have HF := hid (show lookL (osL xs) nm = none from look_none (by have := HN.out; rw [← hol, defsAt_full] at this; exact this))
      go_wp2_with fail
      refine bodyPost_ret (v := lkV none) (by simp [results, Try.results12, Try.f12, go_sem, lkV]) rfl ⟨by rw [HF.out], HB.out⟩
end Go.Proofs.Ytblefgkhikfmhaa
