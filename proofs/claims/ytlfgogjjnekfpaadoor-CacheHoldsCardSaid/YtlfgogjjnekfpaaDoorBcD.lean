
/- CacheNil: the walk. -/
import Derived.Test.YtlfgogjjnekfpaaDoorBcC
namespace Go.Proofs.YtlfgogjjnekfpaaDoor
open Go.RowKit Go.Sort Go.Shelf Go.WideMaps Go.Maps Go.WideShapes Go.WideElems Go.MapKept Go.ChangeMaps
attribute [local go_sem] Oper.semAt_some

set_option maxRecDepth 100000 in
theorem ntake_any (w : World) : Calls Tryd.prog 9 #[.pointer none] w fun e w' => e = .returned (.tuple #[.int .i64 0, .int .i64 2]) ∧ w = w' := by
  go_enter Tryd.func9, Tryd.ntmps9
  go_wp2_with fail
  go_ret2
  exact ⟨rfl, rfl⟩
set_option maxRecDepth 100000 in
theorem nget_any (i p : Int) (w : World) : Calls Tryd.prog 10 #[.pointer none, .int .i64 i, .int .i64 p] w fun e w' => e = .returned (.tuple #[.int .i64 0, .int .i64 2]) ∧ w = w' := by
  go_enter Tryd.func10, Tryd.ntmps10
  go_wp2_with fail
  go_ret2
  exact ⟨rfl, rfl⟩
set_option maxRecDepth 100000 in
theorem ndrop_any (w : World) : Calls Tryd.prog 11 #[.pointer none] w fun e w' => e = .returned (.tuple #[]) ∧ w = w' := by
  go_enter Tryd.func11, Tryd.ntmps11
  go_wp2_with fail
  exact bodyPost_ret (v := .tuple #[]) (results_none rfl _ _ _) rfl ⟨rfl, rfl⟩
set_option maxRecDepth 100000 in
theorem nslots_any (w : World) : Calls Tryd.prog 15 #[.pointer none] w fun e w' => e = .returned (.slice none 0 0) ∧ w = w' := by
  go_enter Tryd.func15, Tryd.ntmps15
  go_wp2_with fail
  go_ret
  exact ⟨rfl, rfl⟩
set_option maxRecDepth 100000 in
theorem npool_any (w : World) : Calls Tryd.prog 16 #[.pointer none] w fun e w' => e = .returned (.pointer none) ∧ w = w' := by
  go_enter Tryd.func16, Tryd.ntmps16
  go_wp2_with fail
  go_ret
  exact ⟨rfl, rfl⟩
set_option maxRecDepth 100000 in
theorem nfiles_any (w : World) : Calls Tryd.prog 17 #[.pointer none] w fun e w' => e = .returned (.pointer none) ∧ w = w' := by
  go_enter Tryd.func17, Tryd.ntmps17
  go_wp2_with fail
  go_ret
  exact ⟨rfl, rfl⟩
set_option maxRecDepth 100000 in
theorem nnew1_any (f : Option Addr) (w : World) : Calls Tryd.prog 14 #[.pointer none, .pointer f] w fun e w' => e = .returned (.tuple #[.pointer none, .int .i64 2]) ∧ w = w' := by
  go_enter Tryd.func14, Tryd.ntmps14
  go_wp2_with fail
  go_ret2
  exact ⟨rfl, rfl⟩
set_option maxRecDepth 100000 in
theorem nnew2_any (p : Addr) (w : World) : Calls Tryd.prog 14 #[.pointer (some p), .pointer none] w fun e w' => e = .returned (.tuple #[.pointer none, .int .i64 2]) ∧ w = w' := by
  go_enter Tryd.func14, Tryd.ntmps14
  go_wp2_with fail
  go_ret2
  exact ⟨rfl, rfl⟩
theorem newW0 : newE [root0] 0 [] = (0, 0, [root0]) := rfl
set_option maxRecDepth 100000 in
set_option maxHeartbeats 4000000 in
theorem cacheNil_walk (i p : Int) (w : World) (hT : Tb w) : Calls Tryd.prog 3 #[.int .i64 i, .int .i64 p] w fun e w' => e = .returned (.bool true) ∧ Below w.heap.size w w' := by
  have HT := hid hT
  have H1 := hid (ntake_any w)
  have H2 := hid (nget_any i p w)
  have H3 := hid (ndrop_any w)
  have H4 := hid (poolNew_any 1 w (by omega) (by omega))
  clear hT
  go_enter Tryd.func3, Tryd.ntmps3
  go_wp2_with fail
  refine (H1.out).mono ?_
  rintro e w1 ⟨rfl, rfl⟩
  go_wp2_with fail
  refine (H2.out).mono ?_
  rintro e w2 ⟨rfl, rfl⟩
  go_wp2_with fail
  refine (H3.out).mono ?_
  rintro e w3 ⟨rfl, rfl⟩
  go_wp2_with fail
  refine (H4.out).mono ?_
  rintro e w4 ⟨pp, g, h, ws, rfl, _, _, _, _, hb⟩
  have HB4 := hid hb
  have HN := hid (new_any none 0 0 [] w4 ⟨Rk.nil _ _ _, fun x h => (by cases h)⟩ (by omega))
  clear hb
  go_wp2_with fail
  refine (HN.out).mono ?_
  rintro e w5 ⟨hb, hp⟩
  rw [if_neg (by show ¬ 64 < 0; omega), newW0, if_pos rfl] at hp
  obtain ⟨F, t, rfl, htl, hfs, hF⟩ := hp
  have HB5 := hid (bthen HB4.out hb)
  have H6 := hid (nnew1_any (some ⟨F, 0, none⟩) w5)
  have H7 := hid (nnew2_any ⟨pp, 0, none⟩ w5)
  have H8 := hid (nslots_any w5)
  have H9 := hid (npool_any w5)
  have H10 := hid (nfiles_any w5)
  have H11 := hid (works08_any w5 (fun j hj => St.cell (HT.out j hj) HB5.out))
  clear hb hfs hF htl
  go_wp2_with fail
  refine (H6.out).mono ?_
  rintro e w6 ⟨rfl, rfl⟩
  go_wp2_with fail
  refine (H7.out).mono ?_
  rintro e w7 ⟨rfl, rfl⟩
  go_wp2_with fail
  refine (H8.out).mono ?_
  rintro e w8 ⟨rfl, rfl⟩
  go_wp2_with fail
  refine (H9.out).mono ?_
  rintro e w9 ⟨rfl, rfl⟩
  go_wp2_with fail
  refine (H10.out).mono ?_
  rintro e w10 ⟨rfl, rfl⟩
  go_wp2_with fail
  refine (H11.out).mono ?_
  rintro e w11 ⟨rfl, hb⟩
  have HB11 := hid hb
  clear hb
  go_wp2_with fail
  go_ret
  exact ⟨rfl, bthen HB5.out HB11.out⟩
end Go.Proofs.YtlfgogjjnekfpaaDoor
