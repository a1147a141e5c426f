
/- The reference's Store: the walk. -/
import Derived.Test.YtllkeeeajlgkpaaDoorJV
import Derived.StillTailTactics
import Derived.Deep.RegionLaw
import Derived.Deep.AppendLies
namespace Go.Proofs.YtllkeeeajlgkpaaDoor
open Go.RowKit Go.Sort

theorem nums_low {w w' : World} {B : Nat} {kd : IntKind} {a : Option Addr} {n : Nat} {l : List Int} (h : Nums w kd a n l) (hb : Below B w w') (ha : ∀ ad, a = some ad → ad.block < B) : Nums w' kd a n l :=
  ⟨h.hlen, fun i hi => by
    obtain ⟨b, off, e, hc⟩ := h.cell i hi
    refine ⟨b, off, e, ?_⟩
    have := ha _ e
    rw [hb.cell (p := ⟨b, off + i, none⟩) this]
    exact hc⟩
theorem own_some {w : World} {base E n : Nat} {v : Value} {xs : List Value} (h : w.ownsRow base E 1 v n xs) (hn : 0 < n) : ∃ q c, v = .slice (some ⟨q, 0, none⟩) n c := by
  rcases h.2 with ⟨_, h0⟩ | ⟨g, cap, cur, rfl, _⟩
  · omega
  · exact ⟨g, cap, rfl⟩
set_option maxRecDepth 100000 in
set_option maxHeartbeats 8000000 in
theorem rstore_any (base p a b : Nat) (fs : List FR) (vs : List Value) (Ls : List (List Int)) (k o : Nat) (ba : Option Addr) (n cap : Nat) (l : List Int) (w : World) (H : RS w base p a b (cnts fs) vs Ls) (h0 : ∀ x ∈ fs, 0 ≤ x.cnt) (hk : k < fs.length) (hcn : fs[k].cnt ≠ 0) (hom : o + n ≤ 4096) (hB : Nums w .u8 ba n l) (hbs : base ≤ w.heap.size) (hkv : k < vs.length) (hkL : k < Ls.length) (hba : 0 < l.length → ∀ ad, ba = some ad → ad.block < base) :
    Calls Tryd.prog 26 #[.pointer (some ⟨p, 0, none⟩), .int .i64 (k : Int), .int .i64 (o : Int), .slice ba n cap] w fun e w' => e = .returned (.int .i64 0) ∧ ∃ vs', vs'.length = vs.length ∧ RS w' base p a b (cnts fs) vs' (Ls.set k (splice (upto Ls[k] (o + n)) o l)) ∧ E3 w w' a b vs[k].ownBlock ∧ (∀ i (h : i < vs'.length) q, vs'[i].ownBlock = some q → OldB vs q ∨ w.heap.size ≤ q) := by
  have HH := hid H
  have HL := hid (rtaken_any p a b (cnts fs) vs (k : Int) w H.rp)
  rw [rtk_tak h0] at HL
  have ht : takE fs (k : Int) = 0 := by unfold takE; rw [cntF_is2 hk, if_neg hcn]
  rw [ht] at HL
  obtain ⟨i0, hi, hz0, hz1, hz2⟩ := info_parts infoU8
  have hcl : (cnts fs).length = fs.length := List.length_map _
  have hvl : vs.length = fs.length := by rw [HH.out.rp.vl]; exact hcl
  have hn2 : fs.length ≤ 1024 := by have := HH.out.rp.n2; rw [hcl] at this; exact this
  have ez : (0 : Int) ≤ (k : Int) := by omega
  have eb : (k : Int) < (fs.length : Int) := by omega
  have hno1 : decide ((o : Int) < 0) = false := by simp
  have hno3 : decide ((4096 : Int) < (o : Int)) = false := by simp; omega
  have hno4 : decide ((4096 : Int) - (o : Int) < (n : Int)) = false := by simp; omega
  have HCL := hid hcl
  have HVL := hid hvl
  have HBY := hid hB
  have hself : Ls.set k Ls[k] = Ls := List.set_getElem_self hkL
  have hu0 : upto Ls[k] 0 = Ls[k] := upto_le (Nat.zero_le _)
  have HG0 := hid (show Grow w w base p a b (cnts fs) Ls k (o + n) vs.length vs[k].ownBlock Ls[k] (upto Ls[k] 0) vs vs from ⟨by rw [hu0, hself]; exact H, rfl, ⟨0, Nat.zero_le _, rfl⟩, fun _ => .inr (.inl rfl), E3.refl _ _ _ _, fun i hi q e => .inl ⟨i, hi, e⟩⟩)
  have hLl := HH.out.lim _ (List.getElem_mem hkL)
  have HXB := hid (fun q (e : vs[k].ownBlock = some q) => own_low (HH.out.own k hkv hkL) (Nat.le_refl _) q e)
  have HAB := hid (show base ≤ a ∧ base ≤ b from ⟨HH.out.aB, HH.out.bB⟩)
  have HBA := hid hba
  have hlen : l.length = n := hB.hlen
  clear hba
  generalize vs[k].ownBlock = X at *
  generalize hLk : Ls[k] = L at *
  clear H h0 ht hcl hvl hB hcn hself hu0
  go_enter Tryd.func26, Tryd.ntmps26
  go_wp2_with fail
  refine (HL.out).mono ?_
  rintro e' w' ⟨rfl, rfl⟩
  go_wp2_with fail
  go_loopw [35] (fun _ wr => ∃ (vs' : List Value) (L' : List Int), Grow w wr base p a b (cnts fs) Ls k (o + n) vs.length X L L' vs' vs) (fun _ wr => o + n - lenAt wr b k)
  case atStart => exact ⟨vs, _, HG0.out⟩
  case round =>
    obtain ⟨vs', L', hG⟩ := hrel
    have HG := hid hG
    have hkv' : k < vs'.length := by rw [hG.vl]; exact hkv
    have hkL' : k < (Ls.set k L').length := by rw [List.length_set]; exact hkL
    have hown := hG.rs.own k hkv' hkL'
    have hLe : (Ls.set k L')[k] = L' := List.getElem_set_self _
    rw [hLe] at hown
    have hL46 := hG.rs.lim _ (List.getElem_mem hkL')
    rw [hLe] at hL46
    obtain ⟨va, vc, ev, hN⟩ := own_nums hown
    have hbc := hG.rs.rp.bys.cell k hkv'
    rw [ev] at hbc
    have hcl : (cnts fs).length = fs.length := HCL.out
    obtain ⟨p0, p1⟩ := hG.rs.rp.cells
    rw [hcl] at p0 p1
    have hlp := hG.rs.rp.pool.lt
    have hlb := hG.rs.rp.bys.lt
    have hfz := hG.rs.rp.bys.frozen k
    have HLA := hid (lenAt_is hbc)
    clear hcl hG
    by_cases hlt : L'.length < o + n
    · have d1 : decide ((L'.length : Int) < (o : Int) + (n : Int)) = true := by simp; omega
      rw [ev] at hown
      have HOW := hid (fun ob => World.ownsRow.drew (hown.alloc ob))
      have HL1 := hid (show L'.length + 1 ≤ maxLen by unfold maxLen; omega)
      have HL2 := hid (show (L'.length + 1) * 1 ≤ 140737488355328 by omega)
      have HN1 := hid (show ∀ j u, [Value.int .u8 0][j]? = some u → (wr.alloc (.cells #[.int .u8 0] 5)).drew.cell? ((Addr.mk wr.heap.size 0 none).add j) = some u from fun j u hj => news_one wr (.int .u8 0) 5 j u hj)
      have hbse : base ≤ (wr.alloc (.cells #[.int .u8 0] 5)).drew.heap.size := by
        have := HG.out.e3.size
        show base ≤ (wr.alloc _).heap.size
        simp only [World.size_alloc]
        omega
      have HBS := hid hbse
      have HBR := hid (show Row (wr.alloc (.cells #[.int .u8 0] 5)).drew b 30 vs' from (HG.out.rs.rp.bys.alloc _).drew)
      have HNB := hid (own_row_ne hown HG.out.rs.rp.bys (by decide))
      have HKV := hid hkv'
      have HPR := hid (show Row (wr.alloc (.cells #[.int .u8 0] 5)).drew p 66 (rpC a b fs.length) from by
        have := (HG.out.rs.rp.pool.alloc (.cells #[.int .u8 0] 5)).drew
        rw [HCL.out] at this
        exact this)
      have HNP := hid (own_row_ne hown HG.out.rs.rp.pool (by decide))
      have HPC := hid (fun (w1 : World) (hr : Row w1 p 66 (rpC a b fs.length)) => show w1.cell? ⟨p, 1, none⟩ = some (.slice (some ⟨b, 0, none⟩) fs.length fs.length) by
        have := hr.cell 1 (by simp)
        simpa [rpC] using this)
      have HEV := hid ev
      have HP9 := hid (fun (w1 : World) (gg cap : Nat) => HG.out.push (w1 := w1) hkv' hkL hlt hom (.cells #[.int .u8 0] 5) (.slice (some ⟨gg, 0, none⟩) (L'.length + 1) cap))
      clear hbse hown hN ev
      go_wp2_with fail
      go_region_law (refine step_append_lies _ (by rfl) _ _ 30 (by rfl) base 5 i0 (.int .u8 0) 1 1 Tryd.underlying30 hi hz0 hz1 hz2 rfl (by decide) (.slice va L'.length vc) L'.length (L'.map (Value.int .u8)) (by rfl) (HOW.out _) ⟨wr.heap.size, 0, none⟩ 1 1 [.int .u8 0] (by rfl) (by rfl) HN1.out (ones_one _ _) (by decide) HL1.out HL2.out HBS.out (wr.heap.size + 1) (by simp) ?_; intro gg cap w1 hown1 hgrow hat hlt; have HB1 := hid (HBR.out.grown hgrow HNB.out); have hbc1 := HB1.out.cell k HKV.out; have hfz1 := HB1.out.frozen k; have hlb1 := HB1.out.lt; have HP1 := hid (HPR.out.grown hgrow HNP.out); have p11 := HPC.out w1 HP1.out; have hlp1 := HP1.out.lt; have HO1 := hid hown1; have HG1 := hid hgrow; have HAT := hid hat; clear hown1 hgrow hat)
      all_goals
        have HGN := hid (HP9.out w1 gg cap (by rw [HEV.out]; exact HG1.out) (by rw [List.map_append]; exact HO1.out) (hat9 HAT.out HEV.out))
        have HLN := hid (lenAt_is (World.cell?_setCell_same w1 ⟨b, k, none⟩ (.slice (some ⟨gg, 0, none⟩) (L'.length + 1) cap) hbc1))
        clear hbc1 hfz1 hlb1 p11 hlp1
        go_wp2_with fail
        go_roundw
        case rel => exact ⟨_, _, HGN.out⟩
        case measure => have h1 := HLN.out; have h2 := HLA.out; omega
    · have d1 : decide ((L'.length : Int) < (o : Int) + (n : Int)) = false := by simp; omega
      have HDN := hid (HG.out.done (by omega))
      have HL0 := hid (show Laid w wr base p a b (cnts fs) Ls k X (splice L' o (l.take 0)) vs' from ⟨by rw [List.take_zero, splice_nil]; exact HG.out.rs, HG.out.e3⟩)
      have HVV := hid HG.out.vl
      have HAL := hid HG.out.al
      have HON := hid (HG.out.own hkv')
      have hge : o + n ≤ L'.length := by omega
      rename World => wB
      have HEV := hid ev
      clear hlt hkL' hLe hown hN HLA ev
      go_wp2_with fail
      clear d1 hbc hfz hlp hlb p0 p1
      go_loopw [9] (fun i wr => ∃ j : Nat, j ≤ n ∧ i = .int .i64 j ∧ Laid w wr base p a b (cnts fs) Ls k X (splice L' o (l.take j)) vs') (fun i _ => n - (intOf i).toNat)
      case atStart => exact ⟨0, Nat.zero_le _, rfl, HL0.out⟩
      case round =>
        obtain ⟨j, hj, rfl, hld⟩ := hrel
        have HLD := hid hld
        clear hld
        by_cases hjn : j < n
        · have d2 : decide ((j : Int) < (n : Int)) = true := by simp; omega
          have d2n : decide (j < n) = true := by simp; omega
          have hkl2 : k < (Ls.set k (splice L' o (l.take j))).length := by rw [List.length_set]; exact hkL
          have hown := HLD.out.rs.own k hkv' hkl2
          rw [List.getElem_set_self] at hown
          have hsl : (splice L' o (l.take j)).length = L'.length := length_splice L' o _ (by rw [List.length_take]; omega)
          rw [hsl] at hown
          obtain ⟨q, qc, hvq⟩ := own_some hown (by omega)
          have hev := HEV.out
          rw [hvq] at hev hown
          cases hev
          have hbc := HLD.out.rs.rp.bys.cell k hkv'
          rw [hvq] at hbc
          have hcl : (cnts fs).length = fs.length := HCL.out
          obtain ⟨p0, p1⟩ := HLD.out.rs.rp.cells
          rw [hcl] at p0 p1
          have hlp := HLD.out.rs.rp.pool.lt
          have hlb := HLD.out.rs.rp.bys.lt
          have hqc := hown.cellAt (o + j) (by omega)
          have hqf := hown.frozenAt (o + j)
          rw [List.getElem?_map, List.getElem?_eq_getElem (show o + j < (splice L' o (l.take j)).length by omega)] at hqc
          have hNb := nums_low HBY.out (HLD.out.e3.below (Below.refl base w) HAB.out.1 HAB.out.2 HXB.out hbs) (HBA.out (by omega))
          obtain ⟨bb, bo, hbe, hbcell⟩ := hNb.cell j (by omega)
          have hbl := World.block_lt_of_cell? wr _ hbcell
          have HQX := hid (show X = some q ∨ w.heap.size ≤ q from by
            rcases HON.out with h | h | ⟨q', h, hq'⟩
            · rw [hvq] at h; cases h
            · rw [hvq] at h; exact .inl h.symm
            · rw [hvq] at h; cases h; exact .inr hq')
          have HST := hid (HLD.out.byte hkv' hkL hvq HQX.out (o + j) l[j])
          rw [splice_step (by omega) (by omega)] at HST
          have gw : IntKind.i64.wrap ((o : Int) + (j : Int)) = (o : Int) + (j : Int) := IntWalk.i64_in _ (by omega)
          have gw1 : (0 : Int) ≤ (o : Int) + (j : Int) := by omega
          have gw2 : (o : Int) + (j : Int) < (L'.length : Int) := by omega
          have gw3 : ((o : Int) + (j : Int)).toNat = o + j := by omega
          have gw4 : (0 : Int) ≤ (j : Int) := by omega
          have gw5 : (j : Int) < (n : Int) := by omega
          have hojl : o + j < L'.length := by omega
          obtain ⟨z9, hz9⟩ : ∃ z, wr.cell? ⟨q, o + j, none⟩ = some (.int .u8 z) := ⟨_, hqc⟩
          clear hqc hown hNb hcl hkl2 hsl
          generalize l[j] = lj at *
          subst hbe
          go_wp2_with fail
          go_still_tail 15, (by kernel_rfl)
          clear gw gw1 gw2 gw3 gw4 gw5
          go_wp2_with fail
          go_roundw
          case rel => exact ⟨j + 1, by omega, by go_num, HST.out⟩
          case measure => simp [intOf]; omega
        · have d2 : decide ((j : Int) < (n : Int)) = false := by simp; omega
          have d2n : decide (j < n) = false := by simp; omega
          have hjl : l.take j = l := List.take_of_length_le (by omega)
          rw [hjl] at HLD
          go_wp2_with fail
          go_ret
          refine ⟨rfl, vs', HVV.out, ?_, HLD.out.e3, HAL.out⟩
          rw [← HDN.out]
          exact HLD.out.rs
end Go.Proofs.YtllkeeeajlgkpaaDoor
