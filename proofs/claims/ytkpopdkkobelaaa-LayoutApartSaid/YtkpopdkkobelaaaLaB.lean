
/- Stage 17's reference: down, up, Loads. -/
import Derived.Test.YtkpopdkkobelaaaLa3
import Derived.Test.YtkpopdkkobelaaaLa4
namespace Go.Proofs.Ytkpopdkkobelaaa
open Go.RowKit Go.Sort Go.Shelf
attribute [local go_sem] Oper.semAt_some

theorem rdown_any (a : Int) (w : World) (h0 : 0 ≤ a) (h1 : a ≤ 18446744073709551615) :
    Calls Try.prog 27 #[.int .u64 a] w fun e w' => e = .returned (.int .u64 (dn a)) ∧ w = w' := by
  have hw : IntKind.u64.wrap (a / 4096 * 4096) = dn a := by rw [IntKind.wrap_u64]; unfold dn; omega
  go_enter Try.func27, Try.ntmps27
  go_wp2_with fail
  go_ret
  exact ⟨by first | rfl | rw [← hw] | (unfold dn; congr 3; omega), rfl⟩
theorem rup_any (a : Int) (w : World) (h0 : 0 ≤ a) (h1 : a ≤ 9223372036854775807) :
    Calls Try.prog 28 #[.int .u64 a] w fun e w' => e = .returned (.int .u64 (upI a)) ∧ w = w' := by
  have h3 : IntKind.u64.wrap (a + 4096) = a + 4096 := by rw [IntKind.wrap_u64]; omega
  have h4 : IntKind.u64.wrap (a + 4096 - 1) = a + 4095 := by rw [IntKind.wrap_u64]; omega
  have hw : IntKind.u64.wrap ((a + 4095) / 4096 * 4096) = upI a := by rw [IntKind.wrap_u64]; unfold upI dn; omega
  go_enter Try.func28, Try.ntmps28
  go_wp2_with fail
  go_ret
  exact ⟨by first | rfl | rw [← hw] | (unfold upI dn; congr 3; omega), rfl⟩

set_option maxRecDepth 100000 in
set_option maxHeartbeats 4000000 in
theorem rloads_any (x : LO) (w : World) (hx : LOk w x) (hn0 : x.sg.length ≤ 1000000000) :
    Calls Try.prog 26 #[loV x] w fun e w' => ∃ v, e = .returned v ∧ OwnG w' w.heap.size v (lds x.sg) ∧ Below w.heap.size w w' := by
  obtain ⟨ino, base, typ, entry, phoff, ga, gn, gc, sg, na, nn, nc, soname, run, sa, sn, sc, ra, rn, rc⟩ := x
  obtain rfl : sg.length = gn := hx.segs.hlen
  have hn : sg.length ≤ 1000000000 := hn0
  obtain ⟨W0, hW0⟩ : ∃ W0, W0 = w.alloc (.cells #[.int .i64 ino, .int .u64 base, .int .u16 typ, .int .u64 entry, .int .u64 phoff, Value.slice ga sg.length gc, .slice na nn nc, .string (ba soname), .string (ba run), .slice sa sn sc, .slice ra rn rc] 33) := ⟨_, rfl⟩
  have HB0 := hid (show Below w.heap.size w W0 by rw [hW0]; exact bal _)
  have HX := hid (show Row W0 w.heap.size 33 [_, _, _, _, _, _, _, _, _, _, _] by rw [hW0]; exact Row.new w 33 [.int .i64 ino, .int .u64 base, .int .u16 typ, .int .u64 entry, .int .u64 phoff, Value.slice ga sg.length gc, .slice na nn nc, .string (ba soname), .string (ba run), .slice sa sn sc, .slice ra rn rc])
  have HS := hid (show Sgs W0 ga sg.length sg from hx.segs.below' HB0.out)
  have HWL := hid (show w.heap.size < W0.heap.size from HX.out.lt)
  obtain ⟨⟨x0, x1, x2, x3, x4, x5⟩, x6, x7, x8, x9, x10⟩ := HX.out.eleven
  have hl1 := HX.out.lt
  clear hx
  unfold loV
  dsimp only
  go_enter Try.func26, Try.ntmps26
  go_wp2_with fail
  try rw [← hW0]
  clear hW0
  go_wp2_with fail
  go_loopw [3, 4] (fun v i wr => ∃ (k : Nat) (sv : Value), k ≤ sg.length ∧ sv = v ∧ i = .int .i64 k ∧ OwnG wr W0.heap.size sv (lds (sg.take k)) ∧ Below W0.heap.size W0 wr) (fun _ i _ => sg.length - (intOf i).toNat)
  case atStart => exact ⟨0, _, Nat.zero_le _, rfl, rfl, ownG_nil _ _, Below.refl _ _⟩
  case round =>
    obtain ⟨k, v, hk, rfl, rfl, hown, hb⟩ := hrel
    have HO := hid hown
    have HB := hid hb
    have HXr := hid (HX.out.below hb HX.out.lt)
    clear hown hb x0 x1 x2 x3 x4 x5 x6 x7 x8 x9 x10 hl1
    obtain ⟨⟨x0, x1, x2, x3, x4, x5⟩, x6, x7, x8, x9, x10⟩ := HXr.out.eleven
    have hl1 := HXr.out.lt
    by_cases hlt : k < sg.length
    · have d1 : decide ((k : Int) < (sg.length : Int)) = true := by simp; omega
      have d1n : decide (k < sg.length) = true := by simp; omega
      obtain ⟨b, off, rfl, z0, z1, z2, z3, z4, z5⟩ := (HS.out.below' HB.out).cells hlt
      have hbl := World.block_lt_of_cell? wr _ z0
      have HT := hid (lds_take hlt)
      have HLL := hid (show (lds (sg.take k)).length ≤ sg.length by have := lds_len (sg.take k); rw [List.length_take] at this; omega)
      generalize sg[k] = s at *
      by_cases hk1 : s.kind = 1
      · have d2 : (s.kind == 1) = true := by simp [hk1]
        rw [if_pos hk1] at HT
        have HOW := hid (fun o => show OwnG (wr.alloc o) W0.heap.size v (lds (sg.take k)) from HO.out.alloc _)
        have HNR := hid (row_rk (Row.new wr 58 (sgC s)) (rfl : (sgC s).length = 6))
        have HNB := hid (fun o => HB.out.alloc HB.out.size o)
        have HONE := hid (sgC_one [s])
        have HN1 := hid (show (((lds (sg.take k)).map sgC).length + 1) * 40 ≤ 140737488355328 by rw [List.length_map]; have := HLL.out; omega)
        have HN2 := hid (show ((lds (sg.take k)).map sgC).length + 1 ≤ maxLen by rw [List.length_map]; have := HLL.out; unfold maxLen; omega)
        clear hk1
        go_wp2_with (at_builtin; go_must (refine wpList_appKg Try.underlying24 infoSeg rfl (by decide) rfl _ _ rfl W0.heap.size v ((lds (sg.take k)).map sgC) [sgC s] rfl (some ⟨wr.heap.size, 0, none⟩) 1 1 rfl (HOW.out _) HNR.out HONE.out (fun h => by cases h) HN1.out HN2.out (HNB.out _).size ?_; intro v' w9 hown hgrow hb9; have HO9 := hid hown; have HB9 := hid ((HNB.out _).trans hb9); clear hown hgrow hb9))
        go_roundw
        case rel => exact ⟨k + 1, _, by omega, rfl, by go_num, by rw [HT.out]; exact own_ext HO9.out (by simp) (by simp), HB9.out⟩
        case measure => simp [intOf]; omega
      · have d2 : (s.kind == 1) = false := by simpa using hk1
        rw [if_neg hk1, List.append_nil] at HT
        clear hk1
        go_wp2_with fail
        go_roundw
        case rel => exact ⟨k + 1, _, by omega, rfl, by go_num, by rw [HT.out]; exact HO.out, HB.out⟩
        case measure => simp [intOf]; omega
    · have d1 : decide ((k : Int) < (sg.length : Int)) = false := by simp; omega
      have d1n : decide (k < sg.length) = false := by simp; omega
      obtain rfl : k = sg.length := by omega
      have HF := hid (show lds (sg.take sg.length) = lds sg by rw [List.take_length])
      go_wp2_with fail
      go_ret
      exact ⟨_, rfl, by rw [← HF.out]; exact own_from HO.out HB0.out.size, HB0.out.trans (HB.out.mono HB0.out.size)⟩
end Go.Proofs.Ytkpopdkkobelaaa
