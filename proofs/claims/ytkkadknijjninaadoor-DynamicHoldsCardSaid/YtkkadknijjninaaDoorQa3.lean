
/- dynamic: one row: an entry, a link, a symbol, a relocation. -/
import Derived.Test.YtkkadknijjninaaDoorQa1
namespace Go.Proofs.YtkkadknijjninaaDoor
open Go.RowKit Go.Sort Go.Shelf
attribute [local go_sem] Oper.semAt_some

theorem wget1 {l : BL} {p : Int} : wgetV l p 1 ≤ 255 := by
  unfold wgetV
  split
  · have h1 := le_lt ((l.drop p.toNat).take (1 : Int).toNat)
    have h2 : ((l.drop p.toNat).take (1 : Int).toNat).length ≤ 1 := by rw [List.length_take]; omega
    have h3 : 256 ^ ((l.drop p.toNat).take (1 : Int).toNat).length ≤ 256 ^ 1 := Nat.pow_le_pow_right (by omega) h2
    omega
  · omega
theorem wget_u {l : BL} {p n : Int} : 0 ≤ wgetV l p n := by
  unfold wgetV
  split <;> omega
theorem wget_lt {l : BL} {p n : Int} : wgetV l p n < 256 ^ n.toNat := by
  unfold wgetV
  split
  · have h1 := le_lt ((l.drop p.toNat).take n.toNat)
    have h2 : 256 ^ ((l.drop p.toNat).take n.toNat).length ≤ 256 ^ n.toNat := Nat.pow_le_pow_right (by omega) (by rw [List.length_take]; omega)
    have h3 : ((le ((l.drop p.toNat).take n.toNat) : Nat) : Int) < ((256 ^ n.toNat : Nat) : Int) := by omega
    simpa using h3
  · have : 0 < 256 ^ n.toNat := Nat.pos_of_ne_zero (by simp)
    have h3 : (0 : Int) < ((256 ^ n.toNat : Nat) : Int) := by omega
    simpa using h3
theorem wg8 {l : BL} {p : Int} : wgetV l p 8 ≤ 18446744073709551615 := by have := @wget_lt l p 8; simp at this; omega
theorem wg4 {l : BL} {p : Int} : wgetV l p 4 ≤ 4294967295 := by have := @wget_lt l p 4; simp at this; omega

/-- An entry, as bytes say it. -/
def entG (l : BL) (p : Int) : Int × Int := (wgetV l p 8, wgetV l (p + 8) 8)
def entC (x : Int × Int) : List Value := [.int .u64 x.1, .int .u64 x.2]
set_option maxHeartbeats 1000000 in
theorem entryAt_any (a : Option Addr) (len cap : Nat) (p : Int) (l : BL) (w : World) (hs : Sizes w) (hl : len ≤ 9223372036854775807) (hB : Byt w a len l) (hp : 0 ≤ p) (hp2 : p ≤ 1000000000000) :
    Calls Tryd.prog 49 #[.slice a len cap, .int .u64 p] w fun e w' => e = .returned (.agg #[.int .u64 (entG l p).1, .int .u64 (entG l p).2]) ∧ Below w.heap.size w w' := by
  obtain ⟨W, hW⟩ : ∃ W, W = w.alloc (.cells #[.int .u64 0, .int .u64 0] 113) := ⟨_, rfl⟩
  have HW := hid hW
  have HLOW := hid (show Below w.heap.size w W by rw [hW]; exact bal _)
  have HROW := hid (show Row W w.heap.size 113 [.int .u64 0, .int .u64 0] by rw [hW]; exact Row.new _ _ _)
  have HN := hid (fun q (hq : 0 ≤ q) => number_any a len cap q 8 l W (hs.below HLOW.out) hl (hB.below' HLOW.out) hq)
  have HP := hid hp
  have ew := IntWalk.u64_in (p + 8) ⟨by omega, by omega⟩
  have y0 := HROW.out.cell' 0
  have y1 := HROW.out.cell' 1
  have f0 := HROW.out.frozen 0
  have f1 := HROW.out.frozen 1
  have hlt := HROW.out.lt
  have HX := hid (show entG l p = (wgetV l p 8, wgetV l (p + 8) 8) from rfl)
  rw [HX.out]
  clear hW hs hB hl
  go_enter Tryd.func49, Tryd.ntmps49
  go_wp2_with fail
  rw [← HW.out]
  refine (HN.out p HP.out).mono ?_
  rintro e' w1 ⟨rfl, rfl⟩
  generalize hx0 : wgetV l p 8 = x0
  have HX0 := hid hx0
  clear hx0
  go_wp2_with fail
  refine (HN.out (p + 8) (by have := HP.out; omega)).mono ?_
  rintro e' w1 ⟨rfl, rfl⟩
  generalize hx1 : wgetV l (p + 8) 8 = x1
  have HX1 := hid hx1
  clear hx1
  go_wp2_with fail
  refine bodyPost_ret (v := .agg #[.int .u64 x0, .int .u64 x1]) (by simp [results, Tryd.results49, Tryd.f49, go_sem, y0, y1, hlt]) rfl ⟨by rw [HX0.out, HX1.out], ?_⟩
  exact bset (bset HLOW.out (Nat.le_refl _) _) (Nat.le_refl _) _
theorem linkAt_any (a : Option Addr) (len cap : Nat) (p : Int) (l : BL) (w : World) (hs : Sizes w) (hl : len ≤ 9223372036854775807) (hB : Byt w a len l) (hp : 0 ≤ p) :
    Calls Tryd.prog 66 #[.slice a len cap, .int .u64 p] w fun e w' => e = .returned (.int .u64 (wgetV l p 4)) ∧ Below w.heap.size w w' := by
  have HN := hid (number_any a len cap p 4 l w hs hl hB hp)
  clear hs hB hl
  go_enter Tryd.func66, Tryd.ntmps66
  go_wp2_with fail
  refine HN.out.mono ?_
  rintro e' w1 ⟨rfl, rfl⟩
  go_wp2_with fail
  go_ret
  exact ⟨rfl, Below.refl _ _⟩
structure RSY where
  name : Int
  value : Int
  size : Int
  bind : Int
  deff : Bool
/-- A symbol, as bytes say it. -/
def symG (l : BL) (p : Int) : RSY := ⟨wgetV l p 4, wgetV l (p + 8) 8, wgetV l (p + 16) 8, wgetV l (p + 4) 1 / 16, wgetV l (p + 6) 2 != 0⟩
def symC (x : RSY) : List Value := [.int .u64 x.name, .string ⟨#[]⟩, .int .u64 x.value, .int .u64 x.size, .int .u8 x.bind, .bool x.deff]
set_option maxHeartbeats 2000000 in
theorem symAt_any (a : Option Addr) (len cap : Nat) (p : Int) (l : BL) (w : World) (hs : Sizes w) (hl : len ≤ 9223372036854775807) (hB : Byt w a len l) (hp : 0 ≤ p) (hp2 : p ≤ 1000000000000) :
    Calls Tryd.prog 68 #[.slice a len cap, .int .u64 p] w fun e w' => e = .returned (.agg (symC (symG l p)).toArray) ∧ Below w.heap.size w w' := by
  obtain ⟨W, hW⟩ : ∃ W, W = w.alloc (.cells #[.int .u64 0, .string ⟨#[]⟩, .int .u64 0, .int .u64 0, .int .u8 0, .bool false] 142) := ⟨_, rfl⟩
  have HW := hid hW
  have HLOW := hid (show Below w.heap.size w W by rw [hW]; exact bal _)
  have HROW := hid (show Row W w.heap.size 142 [.int .u64 0, .string ⟨#[]⟩, .int .u64 0, .int .u64 0, .int .u8 0, .bool false] by rw [hW]; exact Row.new _ _ _)
  have HN := hid (fun q n (hq : 0 ≤ q) => number_any a len cap q n l W (hs.below HLOW.out) hl (hB.below' HLOW.out) hq)
  have HP := hid hp
  have ew4 := IntWalk.u64_in (p + 4) ⟨by omega, by omega⟩
  have ew6 := IntWalk.u64_in (p + 6) ⟨by omega, by omega⟩
  have ew8 := IntWalk.u64_in (p + 8) ⟨by omega, by omega⟩
  have ew16 := IntWalk.u64_in (p + 16) ⟨by omega, by omega⟩
  obtain ⟨y0, y1, y2, y3, y4, y5⟩ := HROW.out.six
  have f0 := HROW.out.frozen 0
  have f1 := HROW.out.frozen 1
  have f2 := HROW.out.frozen 2
  have f3 := HROW.out.frozen 3
  have f4 := HROW.out.frozen 4
  have f5 := HROW.out.frozen 5
  have hlt := HROW.out.lt
  have HX := hid (show symG l p = ⟨wgetV l p 4, wgetV l (p + 8) 8, wgetV l (p + 16) 8, wgetV l (p + 4) 1 / 16, wgetV l (p + 6) 2 != 0⟩ from rfl)
  rw [HX.out]
  clear hW hs hB hl
  go_enter Tryd.func68, Tryd.ntmps68
  go_wp2_with fail
  rw [← HW.out]
  refine (HN.out p 4 HP.out).mono ?_
  rintro e' w1 ⟨rfl, rfl⟩
  generalize hx0 : wgetV l p 4 = x0
  have HX0 := hid hx0
  clear hx0
  go_wp2_with fail
  refine (HN.out (p + 4) 1 (by have := HP.out; omega)).mono ?_
  rintro e' w1 ⟨rfl, rfl⟩
  have hb0 : 0 ≤ wgetV l (p + 4) 1 := wget_u
  have hb1 : wgetV l (p + 4) 1 ≤ 255 := wget1
  generalize hx1 : wgetV l (p + 4) 1 = x1 at hb0 hb1 ⊢
  have HX1 := hid hx1
  clear hx1
  have eb := IntWalk.u8_in (x1 / 16) ⟨by omega, by omega⟩
  go_wp2_with fail
  refine (HN.out (p + 6) 2 (by have := HP.out; omega)).mono ?_
  rintro e' w1 ⟨rfl, rfl⟩
  generalize hx2 : wgetV l (p + 6) 2 = x2
  have HX2 := hid hx2
  clear hx2
  go_wp2_with fail
  refine (HN.out (p + 8) 8 (by have := HP.out; omega)).mono ?_
  rintro e' w1 ⟨rfl, rfl⟩
  generalize hx3 : wgetV l (p + 8) 8 = x3
  have HX3 := hid hx3
  clear hx3
  go_wp2_with fail
  refine (HN.out (p + 16) 8 (by have := HP.out; omega)).mono ?_
  rintro e' w1 ⟨rfl, rfl⟩
  generalize hx4 : wgetV l (p + 16) 8 = x4
  have HX4 := hid hx4
  clear hx4
  go_wp2_with fail
  refine bodyPost_ret (v := .agg (symC ⟨x0, x3, x4, x1 / 16, x2 != 0⟩).toArray) (by simp [results, Tryd.results68, Tryd.f68, go_sem, symC, y0, y1, y2, y3, y4, y5, hlt]) rfl ⟨by rw [HX0.out, HX1.out, HX2.out, HX3.out, HX4.out], ?_⟩
  exact bset (bset (bset (bset (bset (bset HLOW.out (Nat.le_refl _) _) (Nat.le_refl _) _) (Nat.le_refl _) _) (Nat.le_refl _) _) (Nat.le_refl _) _) (Nat.le_refl _) _
structure RLA where
  off : Int
  typ : Int
  sym : Int
  add : Int
/-- A relocation, as bytes say it. -/
def relG (l : BL) (p : Int) : RLA := ⟨wgetV l p 8, wgetV l (p + 8) 4, wgetV l (p + 12) 4, wrap64 (wgetV l (p + 16) 8)⟩
def relC (x : RLA) : List Value := [.int .u64 x.off, .int .u32 x.typ, .int .i64 x.sym, .int .i64 x.add]
set_option maxHeartbeats 2000000 in
theorem relaAt_any (a : Option Addr) (len cap : Nat) (p : Int) (l : BL) (w : World) (hs : Sizes w) (hl : len ≤ 9223372036854775807) (hB : Byt w a len l) (hp : 0 ≤ p) (hp2 : p ≤ 1000000000000) :
    Calls Tryd.prog 70 #[.slice a len cap, .int .u64 p] w fun e w' => e = .returned (.agg (relC (relG l p)).toArray) ∧ Below w.heap.size w w' := by
  obtain ⟨W, hW⟩ : ∃ W, W = w.alloc (.cells #[.int .u64 0, .int .u32 0, .int .i64 0, .int .i64 0] 49) := ⟨_, rfl⟩
  have HW := hid hW
  have HLOW := hid (show Below w.heap.size w W by rw [hW]; exact bal _)
  have HROW := hid (show Row W w.heap.size 49 [.int .u64 0, .int .u32 0, .int .i64 0, .int .i64 0] by rw [hW]; exact Row.new _ _ _)
  have HN := hid (fun q n (hq : 0 ≤ q) => number_any a len cap q n l W (hs.below HLOW.out) hl (hB.below' HLOW.out) hq)
  have HP := hid hp
  have ew8 := IntWalk.u64_in (p + 8) ⟨by omega, by omega⟩
  have ew12 := IntWalk.u64_in (p + 12) ⟨by omega, by omega⟩
  have ew16 := IntWalk.u64_in (p + 16) ⟨by omega, by omega⟩
  obtain ⟨y0, y1, y2, y3⟩ := HROW.out.four
  have f0 := HROW.out.frozen 0
  have f1 := HROW.out.frozen 1
  have f2 := HROW.out.frozen 2
  have f3 := HROW.out.frozen 3
  have hlt := HROW.out.lt
  have HX := hid (show relG l p = ⟨wgetV l p 8, wgetV l (p + 8) 4, wgetV l (p + 12) 4, wrap64 (wgetV l (p + 16) 8)⟩ from rfl)
  rw [HX.out]
  clear hW hs hB hl
  go_enter Tryd.func70, Tryd.ntmps70
  go_wp2_with fail
  rw [← HW.out]
  refine (HN.out p 8 HP.out).mono ?_
  rintro e' w1 ⟨rfl, rfl⟩
  generalize hx0 : wgetV l p 8 = x0
  have HX0 := hid hx0
  clear hx0
  go_wp2_with fail
  refine (HN.out (p + 8) 4 (by have := HP.out; omega)).mono ?_
  rintro e' w1 ⟨rfl, rfl⟩
  have ha0 : 0 ≤ wgetV l (p + 8) 4 := wget_u
  have ha1 : wgetV l (p + 8) 4 ≤ 4294967295 := wg4
  generalize hx1 : wgetV l (p + 8) 4 = x1 at ha0 ha1 ⊢
  have HX1 := hid hx1
  clear hx1
  have ea := IntWalk.u32_in x1 ⟨by omega, by omega⟩
  go_wp2_with fail
  refine (HN.out (p + 12) 4 (by have := HP.out; omega)).mono ?_
  rintro e' w1 ⟨rfl, rfl⟩
  have hb0 : 0 ≤ wgetV l (p + 12) 4 := wget_u
  have hb1 : wgetV l (p + 12) 4 ≤ 4294967295 := wg4
  generalize hx2 : wgetV l (p + 12) 4 = x2 at hb0 hb1 ⊢
  have HX2 := hid hx2
  clear hx2
  have eb := IntWalk.i64_in x2 ⟨by omega, by omega⟩
  go_wp2_with fail
  refine (HN.out (p + 16) 8 (by have := HP.out; omega)).mono ?_
  rintro e' w1 ⟨rfl, rfl⟩
  generalize hx3 : wgetV l (p + 16) 8 = x3
  have HX3 := hid hx3
  clear hx3
  go_wp2_with fail
  refine bodyPost_ret (v := .agg (relC ⟨x0, x1, x2, wrap64 x3⟩).toArray) (by simp [results, Tryd.results70, Tryd.f70, go_sem, relC, y0, y1, y2, y3, hlt]) rfl ⟨by rw [HX0.out, HX1.out, HX2.out, HX3.out], ?_⟩
  exact bset (bset (bset (bset HLOW.out (Nat.le_refl _) _) (Nat.le_refl _) _) (Nat.le_refl _) _) (Nat.le_refl _) _
end Go.Proofs.YtkkadknijjninaaDoor
