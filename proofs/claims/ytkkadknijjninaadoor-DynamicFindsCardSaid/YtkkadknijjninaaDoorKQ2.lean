
/- Merged: Qa5 Qa6. -/
import Derived.Test.YtkkadknijjninaaDoorKQ1
import Derived.Test.YtkkadknijjninaaDoorLa3
namespace Go.Proofs.YtkkadknijjninaaDoor
open Go.RowKit Go.Sort Go.Shelf
attribute [local go_sem] Oper.semAt_some

/-- So many rows of a size, from a place on. -/
def rowsL {α : Type} (g : Int → α) (p size : Int) (m : Nat) : List α := (List.range m).map fun (i : Nat) => g (p + (i : Int) * size)
theorem rowsL_len {α : Type} (g : Int → α) (p size : Int) (m : Nat) : (rowsL g p size m).length = m := by simp [rowsL]
theorem rowsL_snoc {α : Type} (g : Int → α) (p size : Int) (m : Nat) : rowsL g p size (m + 1) = rowsL g p size m ++ [g (p + (m : Int) * size)] := by simp [rowsL, List.range_succ]
theorem rowsL_map {α β : Type} (f : α → β) (g : Int → α) (p size : Int) (m : Nat) : (rowsL g p size m).map f = rowsL (fun q => f (g q)) p size m := by simp [rowsL]
def lnkG (l : BL) (p : Int) : Int := wgetV l p 4
def lnkC (x : Int) : List Value := [.int .u64 x]
theorem infoRowE : (Tryd.prog.info? 113).map (fun i => (i.zero, i.size, i.bytes)) = some (some (.agg #[.int .u64 0, .int .u64 0]), 2, 16) := by kernel_rfl
theorem entC_one (xs : List _) : ∀ r ∈ xs.map entC, ∀ u ∈ r, u.oneCell' = true := by
  intro r hr u hu
  obtain ⟨x, _, rfl⟩ := List.mem_map.1 hr
  unfold entC at hu
  simp only [List.mem_cons, List.not_mem_nil, or_false] at hu
  rcases hu with rfl | rfl <;> rfl
theorem entC_len (xs : List _) : ∀ r ∈ xs.map entC, r.length = 2 := by
  intro r hr
  obtain ⟨x, _, rfl⟩ := List.mem_map.1 hr
  rfl
set_option maxRecDepth 100000 in
set_option maxHeartbeats 8000000 in
theorem rowsE_any (a : Option Addr) (len cap : Nat) (l : BL) (p : Int) (m : Nat) (w : World) (hs : Sizes w) (hl : len ≤ 1000000000) (hB : Byt w a len l) (hp : 0 ≤ p) (hin : p + (m : Int) * 16 ≤ len) :
    Calls Tryd.prog 48 #[.slice a len cap, .int .u64 p, .int .u64 m, .int .u64 16, .func (.func 49) #[] #[]] w fun e w' => ∃ v, e = .returned v ∧ OwnK w' w.heap.size 113 2 v ((rowsL (entG l) p 16 m).map entC) ∧ Below w.heap.size w w' := by
  have HR := hid (fun (wx : World) (hb : Below w.heap.size w wx) (q : Int) (h0 : 0 ≤ q) (h1 : q ≤ 1000000000000) => entryAt_any a len cap q l wx (hs.below hb) (by omega) (hB.below' hb) h0 h1)
  have HP := hid hp
  have HIN := hid hin
  have HL := hid hl
  clear hs hB hp hin hl
  go_enter Tryd.func48, Tryd.ntmps48
  go_wp2_with fail
  go_loopw [11, 14] (fun v i wr => ∃ (k : Nat) (sv : Value), k ≤ m ∧ sv = v ∧ i = .int .u64 k ∧ OwnK wr w.heap.size 113 2 sv ((rowsL (entG l) p 16 k).map entC) ∧ Below w.heap.size w wr) (fun _ i _ => m - (intOf i).toNat)
  case atStart => exact ⟨0, _, Nat.zero_le _, rfl, rfl, ⟨rfl, .inl ⟨rfl, rfl⟩⟩, Below.refl _ _⟩
  case round =>
    obtain ⟨k, v, hk, rfl, rfl, hown, hb⟩ := hrel
    have HO := hid hown
    have HB := hid hb
    clear hown hb
    have hpp := HP.out
    have hii := HIN.out
    have hll := HL.out
    by_cases hlt : k < m
    · have d1 : decide ((k : Int) < (m : Int)) = true := by simp; omega
      have d1n : decide (k < m) = true := by simp; omega
      have ew0 := IntWalk.u64_in (k : Int) ⟨by omega, by omega⟩
      have ew1 := IntWalk.u64_in ((k : Int) * 16) ⟨by omega, by omega⟩
      have ew2 := IntWalk.u64_in (p + (k : Int) * 16) ⟨by omega, by omega⟩
      have ew3 := IntWalk.u64_in ((k : Int) + 1) ⟨by omega, by omega⟩
      obtain ⟨x, hx⟩ : ∃ x, x = entG l (p + (k : Int) * 16) := ⟨_, rfl⟩
      have HX := hid hx
      have HCALL := hid (show Calls Tryd.prog 49 #[.slice a len cap, .int .u64 (p + (k : Int) * 16)] wr (fun e w' => e = .returned (.agg #[.int .u64 x.1, .int .u64 x.2]) ∧ Below wr.heap.size wr w') from by
        rw [hx]
        exact HR.out wr HB.out _ (by omega) (by omega))
      have HT := hid (rowsL_snoc (entG l) p 16 k)
      have HN1 := hid (show (((rowsL (entG l) p 16 k).map entC).length + 1) * 16 ≤ 140737488355328 by rw [List.length_map, rowsL_len]; omega)
      have HN2 := hid (show ((rowsL (entG l) p 16 k).map entC).length + 1 ≤ maxLen by rw [List.length_map, rowsL_len]; unfold maxLen; omega)
      have HM := hid (show k + 1 ≤ m by omega)
      clear hx hpp hii hll
      go_wp2_with fail
      refine HCALL.out.mono ?_
      rintro e' w2 ⟨rfl, hb2⟩
      have HB2 := hid (HB.out.trans (hb2.mono HB.out.size))
      have HO2 := hid (own_below HO.out hb2)
      have HOW := hid (fun o1 => show OwnK (w2.alloc o1) w.heap.size 113 2 v ((rowsL (entG l) p 16 k).map entC) from HO2.out.alloc o1)
      have HNR := hid (show Rk (w2.alloc (.cells #[.int .u64 x.1, .int .u64 x.2] 113)) 2 (some ⟨w2.heap.size, 0, none⟩) 1 [entC x] from row_rk (Row.new w2 113 (entC x)) rfl)
      have HNB := hid (fun o1 => HB2.out.alloc HB2.out.size o1)
      have HNZ := hid (fun o1 => show w.heap.size ≤ (w2.alloc o1).heap.size from (HNB.out o1).size)
      have HONE := hid (entC_one [x])
      clear hb2
      go_wp2_with (at_builtin; go_must (refine wpList_appKg Tryd.underlying80 infoRowE rfl (by decide) rfl _ _ rfl w.heap.size v ((rowsL (entG l) p 16 k).map entC) [entC x] rfl (some ⟨w2.heap.size, 0, none⟩) 1 1 rfl (HOW.out _) HNR.out HONE.out (fun h => by cases h) HN1.out HN2.out (HNZ.out _) ?_; intro v' w9 hown hgrow hb9; have HO9 := hid hown; have HB9 := hid ((HNB.out _).trans hb9); clear hown hgrow hb9))
      go_roundw
      case rel => exact ⟨k + 1, _, HM.out, rfl, by go_num, by rw [HT.out, List.map_append, List.map_singleton, ← HX.out]; exact HO9.out, HB9.out⟩
      case measure => simp [intOf]; omega
    · have d1 : decide ((k : Int) < (m : Int)) = false := by simp; omega
      have d1n : decide (k < m) = false := by simp; omega
      obtain rfl : k = m := by omega
      clear hpp hii hll
      go_wp2_with fail
      go_ret
      exact ⟨_, rfl, HO.out, HB.out⟩
theorem infoRowU : (Tryd.prog.info? 24).map (fun i => (i.zero, i.size, i.bytes)) = some (some (.int .u64 0), 1, 8) := by kernel_rfl
theorem lnkC_one (xs : List _) : ∀ r ∈ xs.map lnkC, ∀ u ∈ r, u.oneCell' = true := by
  intro r hr u hu
  obtain ⟨x, _, rfl⟩ := List.mem_map.1 hr
  unfold lnkC at hu
  simp only [List.mem_cons, List.not_mem_nil, or_false] at hu
  rcases hu with rfl <;> rfl
theorem lnkC_len (xs : List _) : ∀ r ∈ xs.map lnkC, r.length = 1 := by
  intro r hr
  obtain ⟨x, _, rfl⟩ := List.mem_map.1 hr
  rfl
set_option maxRecDepth 100000 in
set_option maxHeartbeats 8000000 in
theorem rowsU_any (a : Option Addr) (len cap : Nat) (l : BL) (p : Int) (m : Nat) (w : World) (hs : Sizes w) (hl : len ≤ 1000000000) (hB : Byt w a len l) (hp : 0 ≤ p) (hin : p + (m : Int) * 4 ≤ len) :
    Calls Tryd.prog 65 #[.slice a len cap, .int .u64 p, .int .u64 m, .int .u64 4, .func (.func 66) #[] #[]] w fun e w' => ∃ v, e = .returned v ∧ OwnK w' w.heap.size 24 1 v ((rowsL (lnkG l) p 4 m).map lnkC) ∧ Below w.heap.size w w' := by
  have HR := hid (fun (wx : World) (hb : Below w.heap.size w wx) (q : Int) (h0 : 0 ≤ q) (h1 : q ≤ 1000000000000) => linkAt_any a len cap q l wx (hs.below hb) (by omega) (hB.below' hb) h0)
  have HP := hid hp
  have HIN := hid hin
  have HL := hid hl
  clear hs hB hp hin hl
  go_enter Tryd.func65, Tryd.ntmps65
  go_wp2_with fail
  go_loopw [11, 14] (fun v i wr => ∃ (k : Nat) (sv : Value), k ≤ m ∧ sv = v ∧ i = .int .u64 k ∧ OwnK wr w.heap.size 24 1 sv ((rowsL (lnkG l) p 4 k).map lnkC) ∧ Below w.heap.size w wr) (fun _ i _ => m - (intOf i).toNat)
  case atStart => exact ⟨0, _, Nat.zero_le _, rfl, rfl, ⟨rfl, .inl ⟨rfl, rfl⟩⟩, Below.refl _ _⟩
  case round =>
    obtain ⟨k, v, hk, rfl, rfl, hown, hb⟩ := hrel
    have HO := hid hown
    have HB := hid hb
    clear hown hb
    have hpp := HP.out
    have hii := HIN.out
    have hll := HL.out
    by_cases hlt : k < m
    · have d1 : decide ((k : Int) < (m : Int)) = true := by simp; omega
      have d1n : decide (k < m) = true := by simp; omega
      have ew0 := IntWalk.u64_in (k : Int) ⟨by omega, by omega⟩
      have ew1 := IntWalk.u64_in ((k : Int) * 4) ⟨by omega, by omega⟩
      have ew2 := IntWalk.u64_in (p + (k : Int) * 4) ⟨by omega, by omega⟩
      have ew3 := IntWalk.u64_in ((k : Int) + 1) ⟨by omega, by omega⟩
      obtain ⟨x, hx⟩ : ∃ x, x = lnkG l (p + (k : Int) * 4) := ⟨_, rfl⟩
      have HX := hid hx
      have HCALL := hid (show Calls Tryd.prog 66 #[.slice a len cap, .int .u64 (p + (k : Int) * 4)] wr (fun e w' => e = .returned (.int .u64 x) ∧ Below wr.heap.size wr w') from by
        rw [hx]
        exact HR.out wr HB.out _ (by omega) (by omega))
      have HT := hid (rowsL_snoc (lnkG l) p 4 k)
      have HN1 := hid (show (((rowsL (lnkG l) p 4 k).map lnkC).length + 1) * 8 ≤ 140737488355328 by rw [List.length_map, rowsL_len]; omega)
      have HN2 := hid (show ((rowsL (lnkG l) p 4 k).map lnkC).length + 1 ≤ maxLen by rw [List.length_map, rowsL_len]; unfold maxLen; omega)
      have HM := hid (show k + 1 ≤ m by omega)
      clear hx hpp hii hll
      go_wp2_with fail
      refine HCALL.out.mono ?_
      rintro e' w2 ⟨rfl, hb2⟩
      have HB2 := hid (HB.out.trans (hb2.mono HB.out.size))
      have HO2 := hid (own_below HO.out hb2)
      have HOW := hid (fun o1 => show OwnK (w2.alloc o1) w.heap.size 24 1 v ((rowsL (lnkG l) p 4 k).map lnkC) from HO2.out.alloc o1)
      have HNR := hid (show Rk (w2.alloc (.cells #[.int .u64 x] 24)) 1 (some ⟨w2.heap.size, 0, none⟩) 1 [lnkC x] from row_rk (Row.new w2 24 (lnkC x)) rfl)
      have HNB := hid (fun o1 => HB2.out.alloc HB2.out.size o1)
      have HNZ := hid (fun o1 => show w.heap.size ≤ (w2.alloc o1).heap.size from (HNB.out o1).size)
      have HONE := hid (lnkC_one [x])
      clear hb2
      go_wp2_with (at_builtin; go_must (refine wpList_appKg Tryd.underlying56 infoRowU rfl (by decide) rfl _ _ rfl w.heap.size v ((rowsL (lnkG l) p 4 k).map lnkC) [lnkC x] rfl (some ⟨w2.heap.size, 0, none⟩) 1 1 rfl (HOW.out _) HNR.out HONE.out (fun h => by cases h) HN1.out HN2.out (HNZ.out _) ?_; intro v' w9 hown hgrow hb9; have HO9 := hid hown; have HB9 := hid ((HNB.out _).trans hb9); clear hown hgrow hb9))
      go_roundw
      case rel => exact ⟨k + 1, _, HM.out, rfl, by go_num, by rw [HT.out, List.map_append, List.map_singleton, ← HX.out]; exact HO9.out, HB9.out⟩
      case measure => simp [intOf]; omega
    · have d1 : decide ((k : Int) < (m : Int)) = false := by simp; omega
      have d1n : decide (k < m) = false := by simp; omega
      obtain rfl : k = m := by omega
      clear hpp hii hll
      go_wp2_with fail
      go_ret
      exact ⟨_, rfl, HO.out, HB.out⟩
theorem infoRowS : (Tryd.prog.info? 142).map (fun i => (i.zero, i.size, i.bytes)) = some (some (.agg #[.int .u64 0, .string ⟨#[]⟩, .int .u64 0, .int .u64 0, .int .u8 0, .bool false]), 6, 48) := by kernel_rfl
theorem symC_one (xs : List _) : ∀ r ∈ xs.map symC, ∀ u ∈ r, u.oneCell' = true := by
  intro r hr u hu
  obtain ⟨x, _, rfl⟩ := List.mem_map.1 hr
  unfold symC at hu
  simp only [List.mem_cons, List.not_mem_nil, or_false] at hu
  rcases hu with rfl | rfl | rfl | rfl | rfl | rfl <;> rfl
theorem symC_len (xs : List _) : ∀ r ∈ xs.map symC, r.length = 6 := by
  intro r hr
  obtain ⟨x, _, rfl⟩ := List.mem_map.1 hr
  rfl
set_option maxRecDepth 100000 in
set_option maxHeartbeats 8000000 in
theorem rowsS_any (a : Option Addr) (len cap : Nat) (l : BL) (p : Int) (m : Nat) (w : World) (hs : Sizes w) (hl : len ≤ 1000000000) (hB : Byt w a len l) (hp : 0 ≤ p) (hin : p + (m : Int) * 24 ≤ len) :
    Calls Tryd.prog 67 #[.slice a len cap, .int .u64 p, .int .u64 m, .int .u64 24, .func (.func 68) #[] #[]] w fun e w' => ∃ v, e = .returned v ∧ OwnK w' w.heap.size 142 6 v ((rowsL (symG l) p 24 m).map symC) ∧ Below w.heap.size w w' := by
  have HR := hid (fun (wx : World) (hb : Below w.heap.size w wx) (q : Int) (h0 : 0 ≤ q) (h1 : q ≤ 1000000000000) => symAt_any a len cap q l wx (hs.below hb) (by omega) (hB.below' hb) h0 h1)
  have HP := hid hp
  have HIN := hid hin
  have HL := hid hl
  clear hs hB hp hin hl
  go_enter Tryd.func67, Tryd.ntmps67
  go_wp2_with fail
  go_loopw [11, 14] (fun v i wr => ∃ (k : Nat) (sv : Value), k ≤ m ∧ sv = v ∧ i = .int .u64 k ∧ OwnK wr w.heap.size 142 6 sv ((rowsL (symG l) p 24 k).map symC) ∧ Below w.heap.size w wr) (fun _ i _ => m - (intOf i).toNat)
  case atStart => exact ⟨0, _, Nat.zero_le _, rfl, rfl, ⟨rfl, .inl ⟨rfl, rfl⟩⟩, Below.refl _ _⟩
  case round =>
    obtain ⟨k, v, hk, rfl, rfl, hown, hb⟩ := hrel
    have HO := hid hown
    have HB := hid hb
    clear hown hb
    have hpp := HP.out
    have hii := HIN.out
    have hll := HL.out
    by_cases hlt : k < m
    · have d1 : decide ((k : Int) < (m : Int)) = true := by simp; omega
      have d1n : decide (k < m) = true := by simp; omega
      have ew0 := IntWalk.u64_in (k : Int) ⟨by omega, by omega⟩
      have ew1 := IntWalk.u64_in ((k : Int) * 24) ⟨by omega, by omega⟩
      have ew2 := IntWalk.u64_in (p + (k : Int) * 24) ⟨by omega, by omega⟩
      have ew3 := IntWalk.u64_in ((k : Int) + 1) ⟨by omega, by omega⟩
      obtain ⟨x, hx⟩ : ∃ x, x = symG l (p + (k : Int) * 24) := ⟨_, rfl⟩
      have HX := hid hx
      have HCALL := hid (show Calls Tryd.prog 68 #[.slice a len cap, .int .u64 (p + (k : Int) * 24)] wr (fun e w' => e = .returned (.agg #[.int .u64 x.name, .string ⟨#[]⟩, .int .u64 x.value, .int .u64 x.size, .int .u8 x.bind, .bool x.deff]) ∧ Below wr.heap.size wr w') from by
        rw [hx]
        exact HR.out wr HB.out _ (by omega) (by omega))
      have HT := hid (rowsL_snoc (symG l) p 24 k)
      have HN1 := hid (show (((rowsL (symG l) p 24 k).map symC).length + 1) * 48 ≤ 140737488355328 by rw [List.length_map, rowsL_len]; omega)
      have HN2 := hid (show ((rowsL (symG l) p 24 k).map symC).length + 1 ≤ maxLen by rw [List.length_map, rowsL_len]; unfold maxLen; omega)
      have HM := hid (show k + 1 ≤ m by omega)
      clear hx hpp hii hll
      go_wp2_with fail
      refine HCALL.out.mono ?_
      rintro e' w2 ⟨rfl, hb2⟩
      have HB2 := hid (HB.out.trans (hb2.mono HB.out.size))
      have HO2 := hid (own_below HO.out hb2)
      have HOW := hid (fun o1 => show OwnK (w2.alloc o1) w.heap.size 142 6 v ((rowsL (symG l) p 24 k).map symC) from HO2.out.alloc o1)
      have HNR := hid (show Rk (w2.alloc (.cells #[.int .u64 x.name, .string ⟨#[]⟩, .int .u64 x.value, .int .u64 x.size, .int .u8 x.bind, .bool x.deff] 142)) 6 (some ⟨w2.heap.size, 0, none⟩) 1 [symC x] from row_rk (Row.new w2 142 (symC x)) rfl)
      have HNB := hid (fun o1 => HB2.out.alloc HB2.out.size o1)
      have HNZ := hid (fun o1 => show w.heap.size ≤ (w2.alloc o1).heap.size from (HNB.out o1).size)
      have HONE := hid (symC_one [x])
      clear hb2
      go_wp2_with (at_builtin; go_must (refine wpList_appKg Tryd.underlying123 infoRowS rfl (by decide) rfl _ _ rfl w.heap.size v ((rowsL (symG l) p 24 k).map symC) [symC x] rfl (some ⟨w2.heap.size, 0, none⟩) 1 1 rfl (HOW.out _) HNR.out HONE.out (fun h => by cases h) HN1.out HN2.out (HNZ.out _) ?_; intro v' w9 hown hgrow hb9; have HO9 := hid hown; have HB9 := hid ((HNB.out _).trans hb9); clear hown hgrow hb9))
      go_roundw
      case rel => exact ⟨k + 1, _, HM.out, rfl, by go_num, by rw [HT.out, List.map_append, List.map_singleton, ← HX.out]; exact HO9.out, HB9.out⟩
      case measure => simp [intOf]; omega
    · have d1 : decide ((k : Int) < (m : Int)) = false := by simp; omega
      have d1n : decide (k < m) = false := by simp; omega
      obtain rfl : k = m := by omega
      clear hpp hii hll
      go_wp2_with fail
      go_ret
      exact ⟨_, rfl, HO.out, HB.out⟩
theorem infoRowR : (Tryd.prog.info? 49).map (fun i => (i.zero, i.size, i.bytes)) = some (some (.agg #[.int .u64 0, .int .u32 0, .int .i64 0, .int .i64 0]), 4, 32) := by kernel_rfl
theorem relC_one (xs : List _) : ∀ r ∈ xs.map relC, ∀ u ∈ r, u.oneCell' = true := by
  intro r hr u hu
  obtain ⟨x, _, rfl⟩ := List.mem_map.1 hr
  unfold relC at hu
  simp only [List.mem_cons, List.not_mem_nil, or_false] at hu
  rcases hu with rfl | rfl | rfl | rfl <;> rfl
theorem relC_len (xs : List _) : ∀ r ∈ xs.map relC, r.length = 4 := by
  intro r hr
  obtain ⟨x, _, rfl⟩ := List.mem_map.1 hr
  rfl
set_option maxRecDepth 100000 in
set_option maxHeartbeats 8000000 in
theorem rowsR_any (a : Option Addr) (len cap : Nat) (l : BL) (p : Int) (m : Nat) (w : World) (hs : Sizes w) (hl : len ≤ 1000000000) (hB : Byt w a len l) (hp : 0 ≤ p) (hin : p + (m : Int) * 24 ≤ len) :
    Calls Tryd.prog 69 #[.slice a len cap, .int .u64 p, .int .u64 m, .int .u64 24, .func (.func 70) #[] #[]] w fun e w' => ∃ v, e = .returned v ∧ OwnK w' w.heap.size 49 4 v ((rowsL (relG l) p 24 m).map relC) ∧ Below w.heap.size w w' := by
  have HR := hid (fun (wx : World) (hb : Below w.heap.size w wx) (q : Int) (h0 : 0 ≤ q) (h1 : q ≤ 1000000000000) => relaAt_any a len cap q l wx (hs.below hb) (by omega) (hB.below' hb) h0 h1)
  have HP := hid hp
  have HIN := hid hin
  have HL := hid hl
  clear hs hB hp hin hl
  go_enter Tryd.func69, Tryd.ntmps69
  go_wp2_with fail
  go_loopw [11, 14] (fun v i wr => ∃ (k : Nat) (sv : Value), k ≤ m ∧ sv = v ∧ i = .int .u64 k ∧ OwnK wr w.heap.size 49 4 sv ((rowsL (relG l) p 24 k).map relC) ∧ Below w.heap.size w wr) (fun _ i _ => m - (intOf i).toNat)
  case atStart => exact ⟨0, _, Nat.zero_le _, rfl, rfl, ⟨rfl, .inl ⟨rfl, rfl⟩⟩, Below.refl _ _⟩
  case round =>
    obtain ⟨k, v, hk, rfl, rfl, hown, hb⟩ := hrel
    have HO := hid hown
    have HB := hid hb
    clear hown hb
    have hpp := HP.out
    have hii := HIN.out
    have hll := HL.out
    by_cases hlt : k < m
    · have d1 : decide ((k : Int) < (m : Int)) = true := by simp; omega
      have d1n : decide (k < m) = true := by simp; omega
      have ew0 := IntWalk.u64_in (k : Int) ⟨by omega, by omega⟩
      have ew1 := IntWalk.u64_in ((k : Int) * 24) ⟨by omega, by omega⟩
      have ew2 := IntWalk.u64_in (p + (k : Int) * 24) ⟨by omega, by omega⟩
      have ew3 := IntWalk.u64_in ((k : Int) + 1) ⟨by omega, by omega⟩
      obtain ⟨x, hx⟩ : ∃ x, x = relG l (p + (k : Int) * 24) := ⟨_, rfl⟩
      have HX := hid hx
      have HCALL := hid (show Calls Tryd.prog 70 #[.slice a len cap, .int .u64 (p + (k : Int) * 24)] wr (fun e w' => e = .returned (.agg #[.int .u64 x.off, .int .u32 x.typ, .int .i64 x.sym, .int .i64 x.add]) ∧ Below wr.heap.size wr w') from by
        rw [hx]
        exact HR.out wr HB.out _ (by omega) (by omega))
      have HT := hid (rowsL_snoc (relG l) p 24 k)
      have HN1 := hid (show (((rowsL (relG l) p 24 k).map relC).length + 1) * 32 ≤ 140737488355328 by rw [List.length_map, rowsL_len]; omega)
      have HN2 := hid (show ((rowsL (relG l) p 24 k).map relC).length + 1 ≤ maxLen by rw [List.length_map, rowsL_len]; unfold maxLen; omega)
      have HM := hid (show k + 1 ≤ m by omega)
      clear hx hpp hii hll
      go_wp2_with fail
      refine HCALL.out.mono ?_
      rintro e' w2 ⟨rfl, hb2⟩
      have HB2 := hid (HB.out.trans (hb2.mono HB.out.size))
      have HO2 := hid (own_below HO.out hb2)
      have HOW := hid (fun o1 => show OwnK (w2.alloc o1) w.heap.size 49 4 v ((rowsL (relG l) p 24 k).map relC) from HO2.out.alloc o1)
      have HNR := hid (show Rk (w2.alloc (.cells #[.int .u64 x.off, .int .u32 x.typ, .int .i64 x.sym, .int .i64 x.add] 49)) 4 (some ⟨w2.heap.size, 0, none⟩) 1 [relC x] from row_rk (Row.new w2 49 (relC x)) rfl)
      have HNB := hid (fun o1 => HB2.out.alloc HB2.out.size o1)
      have HNZ := hid (fun o1 => show w.heap.size ≤ (w2.alloc o1).heap.size from (HNB.out o1).size)
      have HONE := hid (relC_one [x])
      clear hb2
      go_wp2_with (at_builtin; go_must (refine wpList_appKg Tryd.underlying39 infoRowR rfl (by decide) rfl _ _ rfl w.heap.size v ((rowsL (relG l) p 24 k).map relC) [relC x] rfl (some ⟨w2.heap.size, 0, none⟩) 1 1 rfl (HOW.out _) HNR.out HONE.out (fun h => by cases h) HN1.out HN2.out (HNZ.out _) ?_; intro v' w9 hown hgrow hb9; have HO9 := hid hown; have HB9 := hid ((HNB.out _).trans hb9); clear hown hgrow hb9))
      go_roundw
      case rel => exact ⟨k + 1, _, HM.out, rfl, by go_num, by rw [HT.out, List.map_append, List.map_singleton, ← HX.out]; exact HO9.out, HB9.out⟩
      case measure => simp [intOf]; omega
    · have d1 : decide ((k : Int) < (m : Int)) = false := by simp; omega
      have d1n : decide (k < m) = false := by simp; omega
      obtain rfl : k = m := by omega
      clear hpp hii hll
      go_wp2_with fail
      go_ret
      exact ⟨_, rfl, HO.out, HB.out⟩
end Go.Proofs.YtkkadknijjninaaDoor
namespace Go.Proofs.YtkkadknijjninaaDoor
open Go.RowKit Go.Sort Go.Shelf Go.WideMaps Go.Maps
attribute [local go_sem] Oper.semAt_some

theorem undM : Tryd.prog.underlying 83 = some (.map 24 24) := by kernel_rfl
theorem undP : Tryd.prog.underlying 115 = some (.map 24 118) := by kernel_rfl
theorem MM.lookU {w : World} {m : Nat} {l : List (Int × Int)} (h : MM meU w m l) (n : Int) (h0 : 0 ≤ n) (h1 : n ≤ 18446744073709551615) :
    (Instr.lookup 83 (.map (some m)) (.int .u64 n) true).run Tryd.prog w = .ok (.tuple #[.int .u64 ((lk l n).getD 0), .bool (lk l n).isSome]) w := h.look undM 0 (zeroU w) n h0 h1
theorem MM.getU {w : World} {m : Nat} {l : List (Int × Int)} (h : MM meU w m l) (n : Int) (h0 : 0 ≤ n) (h1 : n ≤ 18446744073709551615) :
    (Instr.lookup 83 (.map (some m)) (.int .u64 n) false).run Tryd.prog w = .ok (.int .u64 ((lk l n).getD 0)) w := h.get undM 0 (zeroU w) n h0 h1
theorem MM.lookP {w : World} {m : Nat} {l : List (Int × PU)} (h : MM meP w m l) (n : Int) (h0 : 0 ≤ n) (h1 : n ≤ 18446744073709551615) :
    (Instr.lookup 115 (.map (some m)) (.int .u64 n) true).run Tryd.prog w = .ok (.tuple #[puC ((lk l n).getD puZ), .bool (lk l n).isSome]) w := h.look undP puZ (zeroP w) n h0 h1
theorem MM.getP {w : World} {m : Nat} {l : List (Int × PU)} (h : MM meP w m l) (n : Int) (h0 : 0 ≤ n) (h1 : n ≤ 18446744073709551615) :
    (Instr.lookup 115 (.map (some m)) (.int .u64 n) false).run Tryd.prog w = .ok (puC ((lk l n).getD puZ)) w := h.get undP puZ (zeroP w) n h0 h1
theorem has_any (nv : Value) (m : Nat) (l : List (Int × Int)) (n : Int) (w : World) (hM : MM meU w m l) (h0 : 0 ≤ n) (h1 : n ≤ 18446744073709551615) (a : Option Addr) (c1 c2 : Nat) (hnv : nv = .slice a c1 c2) :
    Calls Tryd.prog 51 #[.agg #[nv, .map (some m)], .int .u64 n] w fun e w' => e = .returned (.bool (lk l n).isSome) ∧ Below w.heap.size w w' := by
  subst hnv
  have hrun := fun o => (hM.below (bal o)).lookU n h0 h1
  have HLOW := hid (fun o => @bal w o)
  clear hM h0 h1
  go_enter Tryd.func51, Tryd.ntmps51
  go_wp2_with fail
  go_ret
  exact ⟨rfl, HLOW.out _⟩
set_option maxHeartbeats 4000000 in
theorem purposes_any (w : World) :
    Calls Tryd.prog 50 #[] w fun e' w' => e' = .returned (.map (some w.heap.size)) ∧ MM meP w' w.heap.size puL ∧ Below w.heap.size w w' := by
  have hmm := @run_makeMap Tryd.prog
  have HO := hid (show MM meP (w.alloc (.map #[] 0)) w.heap.size [] from MM.made w)
  have HB := hid (show Below w.heap.size w (w.alloc (.map #[] 0)) from bal _)
  obtain ⟨W1, hrun1', ho1, hg1⟩ := HO.out.put undP 1 (by decide) (by decide) (by decide) ⟨true, 0, 0⟩
  have hrun1 : (Instr.mapUpdate 115 (.map (some w.heap.size)) (.int .u64 1) (.agg #[.bool true, .int .u64 0, .int .u64 0])).run Tryd.prog _ = .ok () W1 := hrun1'
  have HO := hid ho1
  have HB := hid (HB.out.grown hg1 HB.out.size (fun k hk => by cases hk; exact Nat.le_refl _))
  clear ho1 hg1 hrun1'
  obtain ⟨W2, hrun2', ho2, hg2⟩ := HO.out.put undP 2 (by decide) (by decide) (by decide) ⟨false, 0, 23⟩
  have hrun2 : (Instr.mapUpdate 115 (.map (some w.heap.size)) (.int .u64 2) (.agg #[.bool false, .int .u64 0, .int .u64 23])).run Tryd.prog _ = .ok () W2 := hrun2'
  have HO := hid ho2
  have HB := hid (HB.out.grown hg2 HB.out.size (fun k hk => by cases hk; exact Nat.le_refl _))
  clear ho2 hg2 hrun2'
  obtain ⟨W3, hrun3', ho3, hg3⟩ := HO.out.put undP 4 (by decide) (by decide) (by decide) ⟨false, 0, 6⟩
  have hrun3 : (Instr.mapUpdate 115 (.map (some w.heap.size)) (.int .u64 4) (.agg #[.bool false, .int .u64 0, .int .u64 6])).run Tryd.prog _ = .ok () W3 := hrun3'
  have HO := hid ho3
  have HB := hid (HB.out.grown hg3 HB.out.size (fun k hk => by cases hk; exact Nat.le_refl _))
  clear ho3 hg3 hrun3'
  obtain ⟨W4, hrun4', ho4, hg4⟩ := HO.out.put undP 5 (by decide) (by decide) (by decide) ⟨false, 0, 10⟩
  have hrun4 : (Instr.mapUpdate 115 (.map (some w.heap.size)) (.int .u64 5) (.agg #[.bool false, .int .u64 0, .int .u64 10])).run Tryd.prog _ = .ok () W4 := hrun4'
  have HO := hid ho4
  have HB := hid (HB.out.grown hg4 HB.out.size (fun k hk => by cases hk; exact Nat.le_refl _))
  clear ho4 hg4 hrun4'
  obtain ⟨W5, hrun5', ho5, hg5⟩ := HO.out.put undP 6 (by decide) (by decide) (by decide) ⟨false, 0, 4⟩
  have hrun5 : (Instr.mapUpdate 115 (.map (some w.heap.size)) (.int .u64 6) (.agg #[.bool false, .int .u64 0, .int .u64 4])).run Tryd.prog _ = .ok () W5 := hrun5'
  have HO := hid ho5
  have HB := hid (HB.out.grown hg5 HB.out.size (fun k hk => by cases hk; exact Nat.le_refl _))
  clear ho5 hg5 hrun5'
  obtain ⟨W6, hrun6', ho6, hg6⟩ := HO.out.put undP 7 (by decide) (by decide) (by decide) ⟨false, 0, 8⟩
  have hrun6 : (Instr.mapUpdate 115 (.map (some w.heap.size)) (.int .u64 7) (.agg #[.bool false, .int .u64 0, .int .u64 8])).run Tryd.prog _ = .ok () W6 := hrun6'
  have HO := hid ho6
  have HB := hid (HB.out.grown hg6 HB.out.size (fun k hk => by cases hk; exact Nat.le_refl _))
  clear ho6 hg6 hrun6'
  obtain ⟨W7, hrun7', ho7, hg7⟩ := HO.out.put undP 8 (by decide) (by decide) (by decide) ⟨false, 0, 7⟩
  have hrun7 : (Instr.mapUpdate 115 (.map (some w.heap.size)) (.int .u64 8) (.agg #[.bool false, .int .u64 0, .int .u64 7])).run Tryd.prog _ = .ok () W7 := hrun7'
  have HO := hid ho7
  have HB := hid (HB.out.grown hg7 HB.out.size (fun k hk => by cases hk; exact Nat.le_refl _))
  clear ho7 hg7 hrun7'
  obtain ⟨W8, hrun8', ho8, hg8⟩ := HO.out.put undP 9 (by decide) (by decide) (by decide) ⟨false, 24, 0⟩
  have hrun8 : (Instr.mapUpdate 115 (.map (some w.heap.size)) (.int .u64 9) (.agg #[.bool false, .int .u64 24, .int .u64 0])).run Tryd.prog _ = .ok () W8 := hrun8'
  have HO := hid ho8
  have HB := hid (HB.out.grown hg8 HB.out.size (fun k hk => by cases hk; exact Nat.le_refl _))
  clear ho8 hg8 hrun8'
  obtain ⟨W9, hrun9', ho9, hg9⟩ := HO.out.put undP 10 (by decide) (by decide) (by decide) ⟨false, 0, 5⟩
  have hrun9 : (Instr.mapUpdate 115 (.map (some w.heap.size)) (.int .u64 10) (.agg #[.bool false, .int .u64 0, .int .u64 5])).run Tryd.prog _ = .ok () W9 := hrun9'
  have HO := hid ho9
  have HB := hid (HB.out.grown hg9 HB.out.size (fun k hk => by cases hk; exact Nat.le_refl _))
  clear ho9 hg9 hrun9'
  obtain ⟨W10, hrun10', ho10, hg10⟩ := HO.out.put undP 11 (by decide) (by decide) (by decide) ⟨false, 24, 0⟩
  have hrun10 : (Instr.mapUpdate 115 (.map (some w.heap.size)) (.int .u64 11) (.agg #[.bool false, .int .u64 24, .int .u64 0])).run Tryd.prog _ = .ok () W10 := hrun10'
  have HO := hid ho10
  have HB := hid (HB.out.grown hg10 HB.out.size (fun k hk => by cases hk; exact Nat.le_refl _))
  clear ho10 hg10 hrun10'
  obtain ⟨W11, hrun11', ho11, hg11⟩ := HO.out.put undP 14 (by decide) (by decide) (by decide) ⟨false, 0, 0⟩
  have hrun11 : (Instr.mapUpdate 115 (.map (some w.heap.size)) (.int .u64 14) (.agg #[.bool false, .int .u64 0, .int .u64 0])).run Tryd.prog _ = .ok () W11 := hrun11'
  have HO := hid ho11
  have HB := hid (HB.out.grown hg11 HB.out.size (fun k hk => by cases hk; exact Nat.le_refl _))
  clear ho11 hg11 hrun11'
  obtain ⟨W12, hrun12', ho12, hg12⟩ := HO.out.put undP 15 (by decide) (by decide) (by decide) ⟨false, 0, 0⟩
  have hrun12 : (Instr.mapUpdate 115 (.map (some w.heap.size)) (.int .u64 15) (.agg #[.bool false, .int .u64 0, .int .u64 0])).run Tryd.prog _ = .ok () W12 := hrun12'
  have HO := hid ho12
  have HB := hid (HB.out.grown hg12 HB.out.size (fun k hk => by cases hk; exact Nat.le_refl _))
  clear ho12 hg12 hrun12'
  obtain ⟨W13, hrun13', ho13, hg13⟩ := HO.out.put undP 20 (by decide) (by decide) (by decide) ⟨false, 7, 0⟩
  have hrun13 : (Instr.mapUpdate 115 (.map (some w.heap.size)) (.int .u64 20) (.agg #[.bool false, .int .u64 7, .int .u64 0])).run Tryd.prog _ = .ok () W13 := hrun13'
  have HO := hid ho13
  have HB := hid (HB.out.grown hg13 HB.out.size (fun k hk => by cases hk; exact Nat.le_refl _))
  clear ho13 hg13 hrun13'
  obtain ⟨W14, hrun14', ho14, hg14⟩ := HO.out.put undP 23 (by decide) (by decide) (by decide) ⟨false, 0, 2⟩
  have hrun14 : (Instr.mapUpdate 115 (.map (some w.heap.size)) (.int .u64 23) (.agg #[.bool false, .int .u64 0, .int .u64 2])).run Tryd.prog _ = .ok () W14 := hrun14'
  have HO := hid ho14
  have HB := hid (HB.out.grown hg14 HB.out.size (fun k hk => by cases hk; exact Nat.le_refl _))
  clear ho14 hg14 hrun14'
  obtain ⟨W15, hrun15', ho15, hg15⟩ := HO.out.put undP 29 (by decide) (by decide) (by decide) ⟨false, 0, 0⟩
  have hrun15 : (Instr.mapUpdate 115 (.map (some w.heap.size)) (.int .u64 29) (.agg #[.bool false, .int .u64 0, .int .u64 0])).run Tryd.prog _ = .ok () W15 := hrun15'
  have HO := hid ho15
  have HB := hid (HB.out.grown hg15 HB.out.size (fun k hk => by cases hk; exact Nat.le_refl _))
  clear ho15 hg15 hrun15'
  go_enter Tryd.func50, Tryd.ntmps50
  go_wp2_with fail
  go_ret
  exact ⟨rfl, HO.out, HB.out⟩
/-- Up to the first entry that ends. -/
def untilZ : List (Int × Int) → Option (List (Int × Int))
  | [] => none
  | x :: r => if x.1 = 0 then some [] else (untilZ r).map (x :: ·)
def endB (x : Int × Int) : Bool := decide (x.1 = 0)
theorem untilZ_hit : ∀ {l : List (Int × Int)} {k : Nat} (hk : k < l.length), (l.take k).any endB = false → l[k].1 = 0 → untilZ l = some (l.take k)
  | x :: r, 0, _, _, h => by
    unfold untilZ
    rw [if_pos (show x.1 = 0 from h)]
    rfl
  | x :: r, k + 1, hk, h, h2 => by
    rw [List.take_succ_cons, List.any_cons, Bool.or_eq_false_iff] at h
    have h1 : ¬ x.1 = 0 := by simpa [endB] using h.1
    unfold untilZ
    rw [if_neg h1, untilZ_hit (by simpa using hk) h.2 h2]
    rfl
theorem untilZ_miss : ∀ {l : List (Int × Int)}, l.any endB = false → untilZ l = none
  | [], _ => rfl
  | x :: r, h => by
    rw [List.any_cons, Bool.or_eq_false_iff] at h
    have h1 : ¬ x.1 = 0 := by simpa [endB] using h.1
    unfold untilZ
    rw [if_neg h1, untilZ_miss h.2]
    rfl
def entsL (l : BL) (s : SG) : Option (List (Int × Int)) := if s.fsz % 16 = 0 ∧ insB s.off s.fsz l.length = true then untilZ (rowsL (entG l) s.off 16 (s.fsz / 16).toNat) else none
/-- What entries answers. -/
structure EntP (R : Option (List (Int × Int))) (w : World) (e : Ending) (w' : World) : Prop where
  ex : (∃ xs a c, R = some xs ∧ e = .returned (.tuple #[.slice a xs.length c, .int .i64 0]) ∧ Rk w' 2 a xs.length (xs.map entC)) ∨ (R = none ∧ e = .returned (.tuple #[.slice none 0 0, .int .i64 25]))
  low : Below w.heap.size w w'
theorem slToE (k : IntKind) (a : Option Addr) (len cap m : Nat) (x : Int) (hx : x = (m : Int)) (hm : m ≤ cap) (w : World) :
    (Instr.slice 80 (.slice a len cap) none (some (.int k x)) none).run Tryd.prog w = .ok (.slice a m cap) w := by
  subst hx
  have hz : ∀ w, (sizeOf (Tryd.prog.elem 80)).run Tryd.prog w = .ok 2 w := fun w => by kernel_rfl
  rw [run_slice_h w 80 _ _ _ (by kernel_rfl) k m (by omega) (by omega), hz]
  have e : a.map (·.add 0) = a := by cases a <;> simp [Addr.add]
  simp only [Result.andThen, sliced, Int.toNat_natCast, Nat.zero_mul, e, Nat.sub_zero]
  split <;> rfl
theorem Rk.upto {w : World} {k n m : Nat} {a : Option Addr} {rows : List (List Value)} (h : Rk w k a n rows) (hm : m ≤ n) : Rk w k a m (rows.take m) := by
  have hl := h.hlen
  refine ⟨by rw [List.length_take]; omega, fun i hi => ?_⟩
  have hi' : i < rows.length := by rw [List.length_take] at hi; omega
  rw [List.getElem_take]
  exact ⟨h.klen hi', (h.2 i hi').2⟩
set_option maxRecDepth 100000 in
set_option maxHeartbeats 8000000 in
theorem entries_any (a : Option Addr) (len cap : Nat) (l : BL) (s : SG) (w : World) (hs : Sizes w) (hl : len ≤ 1000000000) (hB : Byt w a len l) (hok : SGok s) :
    Calls Tryd.prog 32 #[.slice a len cap, sgV s] w (EntP (entsL l s) w) := by
  obtain rfl := hB.hlen
  obtain ⟨W, hW⟩ : ∃ W, W = w.alloc (.cells #[.int .u32 s.kind, .int .u8 s.flags, .int .u64 s.off, .int .u64 s.addr, .int .u64 s.fsz, .int .u64 s.msz] 52) := ⟨_, rfl⟩
  have HW := hid hW
  have HLOW := hid (show Below w.heap.size w W by rw [hW]; exact bal _)
  have HROW := hid (show Row W w.heap.size 52 [.int .u32 s.kind, .int .u8 s.flags, .int .u64 s.off, .int .u64 s.addr, .int .u64 s.fsz, .int .u64 s.msz] by rw [hW]; exact Row.new _ _ _)
  obtain ⟨y0, y1, y2, y3, y4, y5⟩ := HROW.out.six
  have hlt := HROW.out.lt
  have HS := hid hok
  have HL := hid hl
  have hz0 := hok.z0
  have ho0 := hok.o0
  have ewl := IntWalk.u64_in (l.length : Int) ⟨by omega, by omega⟩
  have em : s.fsz.tmod 16 = s.fsz % 16 := Int.tmod_eq_emod_of_nonneg hz0
  have HI := hid (fun wx => inside_any s.off s.fsz (l.length : Int) wx hz0 (by omega))
  have HRW := hid (fun (p : Int) (m : Nat) (hp : 0 ≤ p) (hin : p + (m : Int) * 16 ≤ l.length) => rowsE_any a l.length cap l p m W (hs.below HLOW.out) hl (hB.below' HLOW.out) hp hin)
  obtain ⟨R, hR⟩ : ∃ R, R = entsL l s := ⟨_, rfl⟩
  rw [← hR]
  have HR := hid hR
  clear hW hs hB hR hl hok
  unfold sgV
  by_cases hm : s.fsz % 16 = 0
  rotate_left
  · have d1 : (s.fsz.tmod 16 != 0) = true := by rw [em]; simpa using hm
    have HF := hid (show R = none by rw [HR.out]; unfold entsL; rw [if_neg (fun h => hm h.1)])
    clear hm em hz0 ho0
    go_enter Tryd.func32, Tryd.ntmps32
    go_wp2_with fail
    rw [← HW.out]
    go_wp2_with fail
    go_ret2
    exact ⟨.inr ⟨HF.out, rfl⟩, HLOW.out⟩
  have d1 : (s.fsz.tmod 16 != 0) = false := by rw [em]; simpa using hm
  cases hin : insB s.off s.fsz l.length
  · have HF := hid (show R = none by rw [HR.out]; unfold entsL; rw [if_neg (fun h => by rw [hin] at h; exact absurd h.2 (by decide))])
    rw [hin] at HI
    clear hm em hin hz0 ho0
    go_enter Tryd.func32, Tryd.ntmps32
    go_wp2_with fail
    rw [← HW.out]
    go_wp2_with fail
    refine (HI.out _).mono ?_
    rintro e' w5 ⟨rfl, rfl⟩
    go_wp2_with fail
    go_ret2
    exact ⟨.inr ⟨HF.out, rfl⟩, HLOW.out⟩
  have hins := hin
  unfold insB at hins
  simp only [decide_eq_true_eq] at hins
  obtain ⟨m, hm2⟩ : ∃ m : Nat, (m : Int) = s.fsz / 16 := ⟨(s.fsz / 16).toNat, by omega⟩
  have ewm := IntWalk.u64_in (m : Int) ⟨by omega, by have := HL.out; omega⟩
  have ed : IntKind.u64.wrap (s.fsz.tdiv 16) = (m : Int) := by rw [Int.tdiv_eq_ediv_of_nonneg hz0, ← hm2]; exact ewm
  have HRR := hid (HRW.out s.off m ho0 (by omega))
  obtain ⟨xs, hxs⟩ : ∃ xs, xs = rowsL (entG l) s.off 16 m := ⟨_, rfl⟩
  have HF := hid (show R = untilZ xs by rw [HR.out]; unfold entsL; rw [if_pos ⟨hm, hin⟩, hxs]; congr 2; omega)
  have HXL := hid (show xs.length = m by rw [hxs, rowsL_len])
  have HML := hid (show m ≤ l.length by omega)
  rw [hin] at HI
  rw [← hxs] at HRR
  clear hm em hin hins hm2 hxs hz0 ho0 ewm
  go_enter Tryd.func32, Tryd.ntmps32
  go_wp2_with fail
  rw [← HW.out]
  go_wp2_with fail
  refine (HI.out _).mono ?_
  rintro e' w5 ⟨rfl, rfl⟩
  go_wp2_with fail
  refine HRR.out.mono ?_
  rintro e' w6 ⟨v, rfl, ho, hb⟩
  obtain ⟨a6, c6, rfl, hk6, hn6, hnc⟩ := own_rk ho (entC_len xs) (by decide)
  rw [List.length_map] at hk6 hnc ⊢
  have HK := hid hk6
  have HB6 := hid (HLOW.out.trans (hb.mono HLOW.out.size))
  have HNC := hid hnc
  clear ho hb hk6 y0 y1 y2 y3 y4 y5 hlt
  go_wp2_with fail
  go_loopw [33] (fun i wr => ∃ k : Nat, k ≤ xs.length ∧ i = .int .i64 k ∧ (xs.take k).any endB = false ∧ Below w6.heap.size w6 wr) (fun i _ => xs.length - (intOf i).toNat)
  case atStart => exact ⟨0, Nat.zero_le _, rfl, rfl, Below.refl _ _⟩
  case round =>
    obtain ⟨k, hk, rfl, hno, hb⟩ := hrel
    have HB := hid hb
    have HNO := hid hno
    have hxl := HXL.out
    have hml := HML.out
    have hll := HL.out
    clear hno
    by_cases hlt : k < xs.length
    rotate_left
    · have d2 : decide ((k : Int) < (xs.length : Int)) = false := by simp; omega
      have d2n : decide (k < xs.length) = false := by simp; omega
      have HG := hid (show R = none by
        obtain rfl : k = xs.length := by omega
        have := HNO.out
        rw [List.take_length] at this
        rw [HF.out, untilZ_miss this])
      clear hxl hml hll
      go_wp2_with fail
      go_ret2
      exact ⟨.inr ⟨HG.out, rfl⟩, HB6.out.trans (HB.out.mono HB6.out.size)⟩
    have d2 : decide ((k : Int) < (xs.length : Int)) = true := by simp; omega
    have d2n : decide (k < xs.length) = true := by simp; omega
    obtain ⟨b, off, rfl, hc⟩ := (HK.out.below' hb).some_of (by simp; omega)
    have hcc := hc k (by simpa using hlt)
    rw [List.getElem_map] at hcc
    have x0 := hcc 0 (by simp [entC])
    have x1 := hcc 1 (by simp [entC])
    have HANY := hid (fun (h : xs[k].1 = 0) => untilZ_hit hlt HNO.out h)
    have HNXT := hid (fun (h : endB xs[k] = false) => any_more hlt HNO.out h)
    have HTK := hid (HK.out.upto (m := k) (by omega))
    simp only [entC, List.getElem_cons_zero, List.getElem_cons_succ, Nat.add_zero] at x0 x1
    have hbl := World.block_lt_of_cell? wr _ x0
    generalize xs[k] = x at *
    have HBA := hid (fun o => HB.out.alloc HB.out.size o)
    have hsl := slToE .i64 (some ⟨b, off, none⟩) xs.length c6 k (k : Int) rfl (by have := HNC.out; omega)
    clear hb hc hcc
    by_cases h1 : x.1 = 0
    · have e1 : (x.1 == 0) = true := by simpa using h1
      have HT := hid (HANY.out h1)
      have HLT := hid (show (xs.take k).length = k by rw [List.length_take]; omega)
      clear h1 hxl hml hll
      go_wp2_with fail
      go_ret2
      refine ⟨.inl ⟨xs.take k, some ⟨b, off, none⟩, c6, by rw [HF.out, HT.out], by rw [HLT.out]; rfl, ?_⟩, HB6.out.trans ((HBA.out _).mono HB6.out.size)⟩
      rw [HLT.out, List.map_take]
      exact HTK.out.below' (HBA.out _)
    · have e1 : (x.1 == 0) = false := by simpa using h1
      have HT := hid (HNXT.out (decide_eq_false h1))
      clear h1
      go_wp2_with fail
      go_roundw
      case rel => exact ⟨k + 1, by omega, by go_num, HT.out, HBA.out _⟩
      case measure => simp [intOf]; omega
end Go.Proofs.YtkkadknijjninaaDoor
