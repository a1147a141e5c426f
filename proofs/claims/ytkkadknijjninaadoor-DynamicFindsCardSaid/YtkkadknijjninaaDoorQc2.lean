
/- hostellaw13.works. -/
import Derived.Test.YtkkadknijjninaaDoorQc1
import Derived.Deep.RegionHeld3
namespace Go.Proofs.YtkkadknijjninaaDoor
open Go.RowKit Go.Sort Go.Shelf Go.Proofs.YtkkadknijjninaaDoor.Ap
attribute [local go_sem] Oper.semAt_some

theorem relC_len' (xs : List RLA) : ∀ r ∈ xs.map relC, r.length = 4 := by
  intro r hr
  obtain ⟨x, _, rfl⟩ := List.mem_map.1 hr
  rfl
theorem own_first {w : World} {base : Nat} {E : TypeId} {a : Option Addr} {n c : Nat} {x : Value} (h : w.ownsRow base E 1 (.slice a n c) 1 [x]) : n = 1 ∧ ∃ b o, a = some ⟨b, o, none⟩ ∧ w.cell? ⟨b, o, none⟩ = some x := by
  obtain ⟨a1, c1, he, hc, _⟩ := own_cel h
  cases he
  obtain ⟨b, o, rfl, hx⟩ := hc.2 0 (by simp)
  exact ⟨rfl, b, o, rfl, by simpa using hx⟩
theorem ba_ls (s : BL) : (ba s).toList = s := by rw [Lib.toList_data, ba_list]
/-- What the law reads of the object of plain. -/
structure W13 (z : Z7) (w : World) : Prop where
  nd : z.n0 = 1 ∧ ∃ b o, z.b0 = some ⟨b, o, none⟩ ∧ w.cell? ⟨b, o, none⟩ = some (.string (ba [98]))
  sn : z.s1 = ba [97]
  sy : z.n3 = 1 ∧ ∃ b o, z.b3 = some ⟨b, o, none⟩ ∧ w.cell? ⟨b, o + 1, none⟩ = some (.int .u64 77)
  rl : z.n4 = 1 ∧ ∃ b o, z.b4 = some ⟨b, o, none⟩ ∧ w.cell? ⟨b, o + 3, none⟩ = some (.int .i64 (-1))
theorem W13.of {W w : World} {z : Z7} {er : Int} (h : Fin7 (.inr o13) W w z er) : er = 0 ∧ W13 z w := by
  rcases h with ⟨h, _⟩ | ⟨o, ho, he, h1, h2, k0, k3, k4, k5, k6⟩
  · cases h
  · cases ho
    refine ⟨he, own_first k0, h1, ?_, ?_⟩
    · obtain ⟨hn, hk⟩ := ownD_rk k3
      obtain ⟨b, o, e, hc⟩ := hk.some_of (by decide)
      have := hc 0 (by decide) 1 (by decide)
      exact ⟨hn, b, o, e, this⟩
    · obtain ⟨a1, c1, he1, hk, _⟩ := own_rk k4 (relC_len' _) (by decide)
      have hn : z.n4 = 1 := (Value.slice.inj he1).2.1
      have hb : z.b4 = a1 := (Value.slice.inj he1).1
      obtain ⟨b, o, e, hc⟩ := hk.some_of (by decide)
      have := hc 0 (by decide) 3 (by decide)
      exact ⟨hn, b, o, hb.trans e, this⟩
set_option maxRecDepth 100000 in
set_option maxHeartbeats 8000000 in
theorem works13_any (w : World) (hs : Sizes w) : Calls Tryd.prog 8 #[] w fun e w' => e = .returned (.bool true) ∧ Below w.heap.size w w' := by
  have HS := hid (fun (W : World) (hb : Below w.heap.size w W) => hs.below hb)
  clear hs
  go_enter Tryd.func8, Tryd.ntmps8
  go_wp2_with fail
  refine (plain13_any w).mono ?_
  rintro e' w1 ⟨g, h, rfl, hB1, hS1, hb1⟩
  obtain ⟨W1, hW1⟩ : ∃ W1, W1 = w1.alloc (.cells #[.int .u16 3, .int .u64 0, .int .u64 0, .slice (some ⟨h, 0, none⟩) 2 2] 27) := ⟨_, rfl⟩
  have HW1 := hid hW1
  have HL1 := hid (show Below w.heap.size w W1 by rw [hW1]; exact hb1.alloc hb1.size _)
  have HR1 := hid (show Row W1 w1.heap.size 27 [.int .u16 3, .int .u64 0, .int .u64 0, .slice (some ⟨h, 0, none⟩) 2 2] by rw [hW1]; exact Row.new _ _ _)
  have HB1 := hid (show Byt W1 (some ⟨g, 0, none⟩) 280 (st13 35) by rw [hW1]; exact hB1.below' (bal _))
  have HS1 := hid (show Sgs W1 (some ⟨h, 0, none⟩) 2 sg13 by rw [hW1]; exact hS1.below' (bal _))
  have HLEN := hid (st13_len (j := 35) (by omega))
  have HP := hid (show Calls Tryd.prog 17 #[.slice (some ⟨g, 0, none⟩) 280 280, .agg #[.int .u16 3, .int .u64 0, .int .u64 0, .slice (some ⟨h, 0, none⟩) 2 2]] W1 (ParP (.inr o13) W1) from by
    have k := Parse_any (some ⟨g, 0, none⟩) 280 (st13 35) 3 0 0 (some ⟨h, 0, none⟩) 2 sg13 W1 (HS.out W1 HL1.out) (by rw [HLEN.out]; exact HB1.out) (by rw [HLEN.out]; decide) (by rw [HLEN.out]; decide) HS1.out (by decide) sg13_ok
    rw [HLEN.out, parse13] at k
    exact k)
  have HLK := hid (fun (wx : World) (hx : St W1 wx) => show Calls Tryd.prog 10 #[.slice (some ⟨g, 0, none⟩) 280 280, .agg #[.int .u16 3, .int .u64 0, .int .u64 0, .slice (some ⟨h, 0, none⟩) 2 2], .string ⟨#[97]⟩] wx (fun e w' => e = .returned (.tuple #[.int .i64 0, .bool true]) ∧ Below wx.heap.size wx w') from by
    have k := Look_any (some ⟨g, 0, none⟩) 280 (st13 35) 3 0 0 (some ⟨h, 0, none⟩) 2 sg13 [97] wx ((HS.out W1 HL1.out).below hx) (by rw [HLEN.out]; exact HB1.out.below' hx) (by rw [HLEN.out]; decide) (by rw [HLEN.out]; decide) (HS1.out.below' hx) (by decide) sg13_ok (by decide)
    rw [HLEN.out, parse13, look13] at k
    exact k)
  have HRI := hid (fun (wx : World) (hx : St W1 wx) => show Calls Tryd.prog 14 #[.slice (some ⟨g, 0, none⟩) 280 280, .agg #[.int .u16 3, .int .u64 0, .int .u64 0, .slice (some ⟨h, 0, none⟩) 2 2]] wx (fun e w' => e = .returned (.bool true) ∧ Below wx.heap.size wx w') from by
    have k := Right_any (some ⟨g, 0, none⟩) 280 (st13 35) 3 0 0 (some ⟨h, 0, none⟩) 2 sg13 wx ((HS.out W1 HL1.out).below hx) (by rw [HLEN.out]; exact HB1.out.below' hx) (by rw [HLEN.out]; decide) (by rw [HLEN.out]; decide) (HS1.out.below' hx) (by decide) sg13_ok
    rw [HLEN.out, parse13, right13] at k
    exact k)
  have HHA := hid (fun (wx : World) => show Calls Tryd.prog 12 #[.string ⟨#[97]⟩] wx (fun e w' => e = .returned (.int .u32 97) ∧ wx = w') from by
    have k := hash_any [97] wx (by decide)
    rw [hash13] at k
    exact k)
  obtain ⟨y0, y1, y2, y3⟩ := HR1.out.four
  clear hb1 hB1 hS1 hW1
  go_wp2_with fail
  rw [← HW1.out]
  go_wp2_with fail
  refine HP.out.mono ?_
  intro e2 w2 h2
  obtain ⟨⟨z, er, rfl, hfin⟩, hb2⟩ := (show ParP _ _ _ _ from h2)
  obtain ⟨rfl, hz⟩ := W13.of hfin
  obtain ⟨z0, zn0, zk0, zs1, zs2, z3, zn3, zk3, z4, zn4, zk4, z5, zn5, zk5, z6, zn6, zk6⟩ := z
  obtain ⟨⟨e0, b0, o0, f0, c0⟩, e1, ⟨e3, b3, o3, f3, c3⟩, ⟨e4, b4, o4, f4, c4⟩⟩ := hz
  simp only at e0 f0 e1 e3 f3 e4 f4
  subst e0 f0 e1 e3 f3 e4 f4
  have HC0 := hid c0
  have HC3 := hid c3
  have HC4 := hid c4
  have HX2 := hid (show St W1 w2 from hb2)
  have HR2 := hid (HR1.out.below hb2 HR1.out.lt)
  obtain ⟨W3, hW3⟩ : ∃ W3, W3 = w2.alloc (.cells #[.slice (some ⟨b0, o0, none⟩) 1 zk0, .string (ba [97]), .string zs2, .slice (some ⟨b3, o3, none⟩) 1 zk3, .slice (some ⟨b4, o4, none⟩) 1 zk4] 41) := ⟨_, rfl⟩
  have HW3 := hid hW3
  have HL3 := hid (show Below w2.heap.size w2 W3 by rw [hW3]; exact bal _)
  have HD3 := hid (show Row W3 w2.heap.size 41 [.slice (some ⟨b0, o0, none⟩) 1 zk0, .string (ba [97]), .string zs2, .slice (some ⟨b3, o3, none⟩) 1 zk3, .slice (some ⟨b4, o4, none⟩) 1 zk4] by rw [hW3]; exact Row.new _ _ _)
  clear h2 hfin hb2 y0 y1 y2 y3 hW3 c0 c3 c4
  obtain ⟨y0, y1, y2, y3⟩ := HR2.out.four
  have hrl := HR2.out.lt
  go_wp2_with fail
  rw [← HW3.out]
  refine (HLK.out W3 (HX2.out.step HL3.out)).mono ?_
  rintro e4 w4 ⟨rfl, hb4⟩
  have HX4 := hid (St.step (HX2.out.step HL3.out) hb4)
  have HLL4 := hid (HL3.out.trans (hb4.mono HL3.out.size))
  have HR4 := hid (HR1.out.below HX4.out HR1.out.lt)
  have HD4 := hid (HD3.out.below hb4 HD3.out.lt)
  have c0 := keepC HLL4.out HC0.out
  have c3 := keepC HLL4.out HC3.out
  have c4 := keepC HLL4.out HC4.out
  clear y0 y1 y2 y3 hrl hb4
  obtain ⟨y0, y1, y2, y3⟩ := HR4.out.four
  have hrl := HR4.out.lt
  obtain ⟨d0, d1, d2, d3, d4⟩ := HD4.out.five
  have hdl := HD4.out.lt
  have q1 : (ba [97]).toList = [97] := ba_ls [97]
  have q2 : (ba [98]).toList = [98] := ba_ls [98]
  go_wp2_with fail
  refine (HRI.out w4 HX4.out).mono ?_
  rintro e5 w5 ⟨rfl, hb5⟩
  have HX5 := hid (St.step HX4.out hb5)
  clear hb5
  go_wp2_with fail
  refine (HHA.out w5).mono ?_
  rintro e6 w6 ⟨rfl, rfl⟩
  go_wp2_with fail
  go_ret
  exact ⟨rfl, HL1.out.trans (Below.mono HX5.out HL1.out.size)⟩
end Go.Proofs.YtkkadknijjninaaDoor
