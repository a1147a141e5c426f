
/- dynamic: the first dynamic segment. -/
import Derived.Test.YtkkadknijjninaaDoorKQ1
namespace Go.Proofs.YtkkadknijjninaaDoor
open Go.RowKit Go.Sort Go.Shelf
attribute [local go_sem] Oper.semAt_some

theorem bset6 {B : Nat} {w w' : World} (h : Below B w w') {b : Nat} (hb : B ≤ b) (u0 u1 u2 u3 u4 u5 : Value) : Below B w ((((((w'.setCell ⟨b, 0, none⟩ u0).setCell ⟨b, 1, none⟩ u1).setCell ⟨b, 2, none⟩ u2).setCell ⟨b, 3, none⟩ u3).setCell ⟨b, 4, none⟩ u4).setCell ⟨b, 5, none⟩ u5) :=
  bset (bset (bset (bset (bset (bset h hb _) hb _) hb _) hb _) hb _) hb _
def dynS (sg : List SG) : Option SG := sg.find? fun s => decide (s.kind = 2)
def zSG : SG := ⟨0, 0, 0, 0, 0, 0⟩
set_option maxRecDepth 100000 in
set_option maxHeartbeats 8000000 in
theorem dynamicSeg_any (typ entry phoff : Int) (a : Option Addr) (c : Nat) (sg : List SG) (w : World) (hS : Sgs w a sg.length sg) (hn : sg.length ≤ 1000000000) :
    Calls Tryd.prog 31 #[.agg #[.int .u16 typ, .int .u64 entry, .int .u64 phoff, .slice a sg.length c]] w fun e w' => e = .returned (.tuple #[sgV ((dynS sg).getD zSG), .bool (dynS sg).isSome]) ∧ Below w.heap.size w w' := by
  obtain ⟨W, hW⟩ : ∃ W, W = (w.alloc (.cells #[.int .u16 typ, .int .u64 entry, .int .u64 phoff, .slice a sg.length c] 27)).alloc (.cells #[.int .u32 0, .int .u8 0, .int .u64 0, .int .u64 0, .int .u64 0, .int .u64 0] 52) := ⟨_, rfl⟩
  have HW := hid hW
  have HLOW := hid (show Below w.heap.size w W by rw [hW]; exact (bal _).alloc (bal (w := w) _).size _)
  have HROW := hid (show Row W w.heap.size 27 [.int .u16 typ, .int .u64 entry, .int .u64 phoff, .slice a sg.length c] by rw [hW]; exact (Row.new _ _ _).alloc _)
  have HZR := hid (show Row W (w.heap.size + 1) 52 [.int .u32 0, .int .u8 0, .int .u64 0, .int .u64 0, .int .u64 0, .int .u64 0] by
    rw [hW]
    have := Row.new (w.alloc (.cells #[.int .u16 typ, .int .u64 entry, .int .u64 phoff, .slice a sg.length c] 27)) 52 [.int .u32 0, .int .u8 0, .int .u64 0, .int .u64 0, .int .u64 0, .int .u64 0]
    rw [World.size_alloc] at this
    exact this)
  have HWZ := hid (show W.heap.size = w.heap.size + 2 by rw [hW, World.size_alloc, World.size_alloc])
  have HS := hid (hS.below' HLOW.out)
  obtain ⟨R, hR⟩ : ∃ R, R = dynS sg := ⟨_, rfl⟩
  rw [← hR]
  have HR := hid hR
  have w3 := HROW.out.cell' 3
  clear hW hS hR
  go_enter Tryd.func31, Tryd.ntmps31
  go_wp2_with fail
  rw [← HW.out]
  go_wp2_with fail
  clear w3
  go_loopw [9] (fun i wr => ∃ k : Nat, k ≤ sg.length ∧ i = .int .i64 k ∧ (sg.take k).any (fun s => decide (s.kind = 2)) = false ∧ Below W.heap.size W wr) (fun i _ => sg.length - (intOf i).toNat)
  case atStart => exact ⟨0, Nat.zero_le _, rfl, rfl, Below.refl _ _⟩
  case round =>
    obtain ⟨k, hk, rfl, hno, hb⟩ := hrel
    have HB := hid hb
    have HNO := hid hno
    have HZ2 := hid (HZR.out.below hb HZR.out.lt)
    obtain ⟨z0, z1, z2, z3, z4, z5⟩ := HZ2.out.six
    have f0 := HZ2.out.frozen 0
    have f1 := HZ2.out.frozen 1
    have f2 := HZ2.out.frozen 2
    have f3 := HZ2.out.frozen 3
    have f4 := HZ2.out.frozen 4
    have f5 := HZ2.out.frozen 5
    have hzl := HZ2.out.lt
    have hb0 := HLOW.out
    clear hno
    by_cases hlt : k < sg.length
    rotate_left
    · have d1 : decide ((k : Int) < (sg.length : Int)) = false := by simp; omega
      have d1n : decide (k < sg.length) = false := by simp; omega
      have HF := hid (show R = none by
        obtain rfl : k = sg.length := by omega
        have := HNO.out
        rw [List.take_length] at this
        rw [HR.out]
        exact find_miss this)
      clear hb
      go_wp2_with fail
      refine bodyPost_ret (v := .tuple #[sgV zSG, .bool false]) (by simp [results, Tryd.results31, Tryd.f31, go_sem, sgV, zSG, z0, z1, z2, z3, z4, z5, hzl]) rfl ?_
      refine ⟨by rw [HF.out]; rfl, ?_⟩
      exact bset6 (HLOW.out.trans (HB.out.mono HLOW.out.size)) (by omega) _ _ _ _ _ _
    have d1 : decide ((k : Int) < (sg.length : Int)) = true := by simp; omega
    have d1n : decide (k < sg.length) = true := by simp; omega
    obtain ⟨b, off, rfl, x0, x1, x2, x3, x4, x5⟩ := (HS.out.below' hb).cells hlt
    have hbl := World.block_lt_of_cell? wr _ x0
    have HANY := hid (fun (h : decide (sg[k].kind = 2) = true) => show R = some sg[k] by rw [HR.out]; exact find_hit hlt HNO.out h)
    have HNXT := hid (fun (h : decide (sg[k].kind = 2) = false) => any_more hlt HNO.out h)
    generalize sg[k] = x at *
    have HBA := hid (fun o => HB.out.alloc HB.out.size o)
    clear hb
    by_cases h1 : x.kind = 2
    · have e1 : (x.kind == 2) = true := by simpa using h1
      have HT := hid (HANY.out (decide_eq_true h1))
      clear h1
      go_wp2_with fail
      refine bodyPost_ret (v := .tuple #[sgV x, .bool true]) (by simp [results, Tryd.results31, Tryd.f31, go_sem, sgV, z0, z1, z2, z3, z4, z5, hzl]) rfl ?_
      refine ⟨by rw [HT.out]; rfl, ?_⟩
      have h6 := bset6 (HLOW.out.trans (HB.out.mono HLOW.out.size)) (show w.heap.size ≤ w.heap.size + 1 by omega) (.int .u32 x.kind) (.int .u8 x.flags) (.int .u64 x.off) (.int .u64 x.addr) (.int .u64 x.fsz) (.int .u64 x.msz)
      exact h6.alloc h6.size _
    · have e1 : (x.kind == 2) = false := by simpa using h1
      have HT := hid (HNXT.out (decide_eq_false h1))
      clear h1
      go_wp2_with fail
      go_roundw
      case rel => exact ⟨k + 1, by omega, by go_num, HT.out, HBA.out _⟩
      case measure => simp [intOf]; omega
end Go.Proofs.YtkkadknijjninaaDoor
