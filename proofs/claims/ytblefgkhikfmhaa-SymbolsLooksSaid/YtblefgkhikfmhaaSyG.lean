/- Large. -/
import Derived.Test.YtblefgkhikfmhaaSyE
import Derived.IntWalk
namespace Go.Proofs.Ytblefgkhikfmhaa
open Go.RowKit Go.Sort Go.Shelf
attribute [local go_sem] Oper.semAt_some

def LargePost (w : World) (len : Nat) (xs : List OB) (e : Ending) (w' : World) : Prop := ∃ b, e = .returned (.bool b) ∧ w' = w ∧ (b = false → len ≤ 300 ∧ ∀ x ∈ xs, x.sn ≤ 300)

set_option maxHeartbeats 4000000 in
theorem large_any (a : Option Addr) (len cap : Nat) (xs : List OB) (w : World) (hO : Objs w a len xs) (hl : len ≤ 1000000000000) (hsn : ∀ x ∈ xs, x.sn ≤ 4000000000000) (hnm : ∀ x ∈ xs, ∀ s ∈ x.sy, s.name.length ≤ 140737488351232) :
    Calls Try.prog 8 #[.slice a len cap] w (LargePost w len xs) := by
  have HO := hid hO
  have hlen := hO.hlen
  have HSN := hid hsn
  have HNM := hid hnm
  clear hO hsn hnm
  go_enter Try.func8, Try.ntmps8
  go_wp2_with fail
  go_loopw [3, 4] (fun n i wr => wr = w ∧ ∃ k nn : Nat, k ≤ len ∧ i = .int .i64 k ∧ n = .int .i64 nn ∧ len ≤ nn ∧ nn ≤ len + 1300 ∧ ∀ j (hj : j < xs.length), j < k → min xs[j].sn 1000 ≤ nn) (fun _ i _ => len - (intOf i).toNat)
  case atStart => exact ⟨rfl, 0, len, Nat.zero_le _, rfl, rfl, Nat.le_refl _, by omega, fun j _ h => by omega⟩
  case round =>
    obtain ⟨rfl, k, nn, hk, rfl, rfl, h1, h2, h3⟩ := hrel
    have H3 := hid h3
    clear h3
    by_cases hlt : k < len
    · have d1 : decide ((k : Int) < (len : Int)) = true := by simp; omega
      by_cases hn : nn ≤ 300
      · have d2 : decide ((nn : Int) ≤ 300) = true := by simp; omega
        obtain ⟨b, off, rfl, _, x6, x7, x8, x9, x10⟩ := HO.out.cells (i := k) (by rw [hlen]; exact hlt)
        replace x9 : wr.cell? ⟨b, off + k * 11 + 6 + 3, none⟩ = _ := x9
        have HSY := hid (HO.out.syms _ (List.getElem_mem (n := k) (by rw [hlen]; exact hlt)))
        have HSL := hid (HO.out.sn (List.getElem_mem (n := k) (by rw [hlen]; exact hlt)))
        have hsb := HSN.out _ (List.getElem_mem (n := k) (by rw [hlen]; exact hlt))
        have HNX := hid (HNM.out _ (List.getElem_mem (n := k) (by rw [hlen]; exact hlt)))
        have HSTEP := hid (fun (m : Nat) (hm : nn ≤ m) (hx : min (xs[k]'(by rw [hlen]; exact hlt)).sn 1000 ≤ m) => show ∀ j (hj : j < xs.length), j < k + 1 → min xs[j].sn 1000 ≤ m from fun j hj hjk => by
          by_cases e : j = k
          · subst e; exact hx
          · exact Nat.le_trans (H3.out j hj (by omega)) hm)
        generalize xs[k]'(by rw [hlen]; exact hlt) = x at *
        clear x6 x7 x8 x10
        by_cases hm : x.sn ≤ 1000
        · have hm' : decide ((1000 : Int) < (x.sn : Int)) = false := by simp; omega
          go_wp2_with fail
          go_loopw [3, 5] (fun n i w' => w' = wr ∧ ∃ q mm : Nat, q ≤ x.sn ∧ i = .int .i64 q ∧ n = .int .i64 mm ∧ nn ≤ mm ∧ mm ≤ 1300 ∧ min x.sn 1000 ≤ mm) (fun _ i _ => x.sn - (intOf i).toNat)
          case atStart => exact ⟨rfl, 0, nn + x.sn, Nat.zero_le _, rfl, by go_num, by omega, by omega, by omega⟩
          case round =>
            obtain ⟨rfl, q, mm, hq, rfl, rfl, g1, g2, g3⟩ := hrel
            by_cases hqt : q < x.sn
            · have e1 : decide ((q : Int) < (x.sn : Int)) = true := by simp; omega
              by_cases hmm : mm ≤ 300
              · have e2 : decide ((mm : Int) ≤ 300) = true := by simp; omega
                have hql : q < x.sy.length := by rw [HSL.out]; exact hqt
                obtain ⟨bs, os, es, y0, _, _, _, _⟩ := sy_cells HSY.out hql
                have hnl := HNX.out _ (List.getElem_mem hql)
                generalize x.sy[q] = s at *
                rw [es] at x9
                have hsz : (ba s.name).size ≤ 140737488351232 := by rw [ba_size]; exact hnl
                by_cases hbig : (ba s.name).size / 1000 ≤ 1000
                · have e3 : decide (((((ba s.name).size / 1000 : Nat)) : Int) ≤ 1000) = true := by simp; omega
                  go_wp2_with fail
                  go_roundw
                  case rel => exact ⟨trivial, q + 1, mm + (ba s.name).size / 1000, by omega, by go_num, congrArg (Value.int .i64) (by omega), by omega, by omega, by omega⟩
                  case measure => simp [intOf]; omega
                · have e3 : decide (((((ba s.name).size / 1000 : Nat)) : Int) ≤ 1000) = false := by simp; omega
                  go_wp2_with fail
                  go_roundw
                  case rel => exact ⟨trivial, q + 1, mm + 1000, by omega, by go_num, congrArg (Value.int .i64) (by omega), by omega, by omega, by omega⟩
                  case measure => simp [intOf]; omega
              · have e2 : decide ((mm : Int) ≤ 300) = false := by simp; omega
                go_wp2_with fail
                go_roundw
                case rel => exact ⟨trivial, k + 1, mm, by omega, by go_num, rfl, by omega, by omega, HSTEP.out mm g1 g3⟩
                case measure => simp [intOf]; omega
            · have e1 : decide ((q : Int) < (x.sn : Int)) = false := by simp; omega
              go_wp2_with fail
              go_roundw
              case rel => exact ⟨trivial, k + 1, mm, by omega, by go_num, rfl, by omega, by omega, HSTEP.out mm g1 g3⟩
              case measure => simp [intOf]; omega
        · have hm' : decide ((1000 : Int) < (x.sn : Int)) = true := by simp; omega
          go_wp2_with fail
          go_loopw [3, 5] (fun n i w' => w' = wr ∧ i = .int .i64 0 ∧ ∃ mm : Nat, n = .int .i64 mm ∧ 1000 ≤ mm ∧ nn ≤ mm ∧ mm ≤ 1300) (fun _ _ _ => 0)
          case atStart => exact ⟨rfl, rfl, nn + 1000, by go_num, by omega, by omega, by omega⟩
          case round =>
            obtain ⟨rfl, rfl, mm, rfl, g0, g1, g2⟩ := hrel
            have e1 : decide ((0 : Int) < (x.sn : Int)) = true := by simp; omega
            have e2 : decide ((mm : Int) ≤ 300) = false := by simp; omega
            go_wp2_with fail
            go_roundw
            case rel => exact ⟨trivial, k + 1, mm, by omega, by go_num, rfl, by omega, by omega, HSTEP.out mm g1 (by omega)⟩
            case measure => simp [intOf]; omega
      · have d2 : decide ((nn : Int) ≤ 300) = false := by simp; omega
        have d3 : decide ((300 : Int) < nn) = true := by simp; omega
        go_wp2_with fail
        refine bodyPost_ret (results_tmp rfl _ _ _) rfl ⟨true, rfl, rfl, fun h => by cases h⟩
    · have d1 : decide ((k : Int) < (len : Int)) = false := by simp; omega
      go_wp2_with fail
      refine bodyPost_ret (results_tmp rfl _ _ _) rfl ⟨decide ((300 : Int) < nn), rfl, rfl, fun h => ?_⟩
      have hn : nn ≤ 300 := by simp at h; omega
      refine ⟨by omega, fun x hx => ?_⟩
      obtain ⟨j, hj, rfl⟩ := List.mem_iff_getElem.1 hx
      have := H3.out j hj (by omega)
      omega
end Go.Proofs.Ytblefgkhikfmhaa
