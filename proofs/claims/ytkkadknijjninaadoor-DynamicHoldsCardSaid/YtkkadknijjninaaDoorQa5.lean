
/- dynamic: rows of entries, links, symbols, relocations. -/
import Derived.Test.YtkkadknijjninaaDoorQa3
import Derived.Test.YtkkadknijjninaaDoorLa3
namespace Go.Proofs.YtkkadknijjninaaDoor
open Go.RowKit Go.Sort Go.Shelf
attribute [local go_sem] Oper.semAt_some

/-- So many rows of a size, from a place on. -/
def rowsL {α : Type} (g : Int → α) (p size : Int) (m : Nat) : List α := (List.range m).map fun (i : Nat) => g (p + (i : Int) * size)
theorem rowsL_len {α : Type} (g : Int → α) (p size : Int) (m : Nat) : (rowsL g p size m).length = m := by simp [rowsL]
theorem rowsL_snoc {α : Type} (g : Int → α) (p size : Int) (m : Nat) : rowsL g p size (m + 1) = rowsL g p size m ++ [g (p + (m : Int) * size)] := by simp [rowsL, List.range_succ]
theorem rowsL_map {α β : Type} (f : α → β) (g : Int → α) (p size : Int) (m : Nat) : (rowsL g p size m).map f = rowsL (fun q => f (g q)) p size m := by simp [rowsL]
def lnkG (l : BL) (p : Int) : Int := wgetV l p 4
def lnkC (x : Int) : List Value := [.int .u64 x]
theorem infoRowE : (Tryd.prog.info? 113).map (fun i => (i.zero, i.size, i.bytes)) = some (some (.agg #[.int .u64 0, .int .u64 0]), 2, 16) := by kernel_rfl
theorem entC_one (xs : List _) : ∀ r ∈ xs.map entC, ∀ u ∈ r, u.oneCell' = true := by
  intro r hr u hu
  obtain ⟨x, _, rfl⟩ := List.mem_map.1 hr
  unfold entC at hu
  simp only [List.mem_cons, List.not_mem_nil, or_false] at hu
  rcases hu with rfl | rfl <;> rfl
theorem entC_len (xs : List _) : ∀ r ∈ xs.map entC, r.length = 2 := by
  intro r hr
  obtain ⟨x, _, rfl⟩ := List.mem_map.1 hr
  rfl
set_option maxRecDepth 100000 in
set_option maxHeartbeats 8000000 in
theorem rowsE_any (a : Option Addr) (len cap : Nat) (l : BL) (p : Int) (m : Nat) (w : World) (hs : Sizes w) (hl : len ≤ 1000000000) (hB : Byt w a len l) (hp : 0 ≤ p) (hin : p + (m : Int) * 16 ≤ len) :
    Calls Tryd.prog 48 #[.slice a len cap, .int .u64 p, .int .u64 m, .int .u64 16, .func (.func 49) #[] #[]] w fun e w' => ∃ v, e = .returned v ∧ OwnK w' w.heap.size 113 2 v ((rowsL (entG l) p 16 m).map entC) ∧ Below w.heap.size w w' := by
  have HR := hid (fun (wx : World) (hb : Below w.heap.size w wx) (q : Int) (h0 : 0 ≤ q) (h1 : q ≤ 1000000000000) => entryAt_any a len cap q l wx (hs.below hb) (by omega) (hB.below' hb) h0 h1)
  have HP := hid hp
  have HIN := hid hin
  have HL := hid hl
  clear hs hB hp hin hl
  go_enter Tryd.func48, Tryd.ntmps48
  go_wp2_with fail
  go_loopw [11, 14] (fun v i wr => ∃ (k : Nat) (sv : Value), k ≤ m ∧ sv = v ∧ i = .int .u64 k ∧ OwnK wr w.heap.size 113 2 sv ((rowsL (entG l) p 16 k).map entC) ∧ Below w.heap.size w wr) (fun _ i _ => m - (intOf i).toNat)
  case atStart => exact ⟨0, _, Nat.zero_le _, rfl, rfl, ⟨rfl, .inl ⟨rfl, rfl⟩⟩, Below.refl _ _⟩
  case round =>
    obtain ⟨k, v, hk, rfl, rfl, hown, hb⟩ := hrel
    have HO := hid hown
    have HB := hid hb
    clear hown hb
    have hpp := HP.out
    have hii := HIN.out
    have hll := HL.out
    by_cases hlt : k < m
    · have d1 : decide ((k : Int) < (m : Int)) = true := by simp; omega
      have d1n : decide (k < m) = true := by simp; omega
      have ew0 := IntWalk.u64_in (k : Int) ⟨by omega, by omega⟩
      have ew1 := IntWalk.u64_in ((k : Int) * 16) ⟨by omega, by omega⟩
      have ew2 := IntWalk.u64_in (p + (k : Int) * 16) ⟨by omega, by omega⟩
      have ew3 := IntWalk.u64_in ((k : Int) + 1) ⟨by omega, by omega⟩
      obtain ⟨x, hx⟩ : ∃ x, x = entG l (p + (k : Int) * 16) := ⟨_, rfl⟩
      have HX := hid hx
      have HCALL := hid (show Calls Tryd.prog 49 #[.slice a len cap, .int .u64 (p + (k : Int) * 16)] wr (fun e w' => e = .returned (.agg #[.int .u64 x.1, .int .u64 x.2]) ∧ Below wr.heap.size wr w') from by
        rw [hx]
        exact HR.out wr HB.out _ (by omega) (by omega))
      have HT := hid (rowsL_snoc (entG l) p 16 k)
      have HN1 := hid (show (((rowsL (entG l) p 16 k).map entC).length + 1) * 16 ≤ 140737488355328 by rw [List.length_map, rowsL_len]; omega)
      have HN2 := hid (show ((rowsL (entG l) p 16 k).map entC).length + 1 ≤ maxLen by rw [List.length_map, rowsL_len]; unfold maxLen; omega)
      have HM := hid (show k + 1 ≤ m by omega)
      clear hx hpp hii hll
      go_wp2_with fail
      refine HCALL.out.mono ?_
      rintro e' w2 ⟨rfl, hb2⟩
      have HB2 := hid (HB.out.trans (hb2.mono HB.out.size))
      have HO2 := hid (own_below HO.out hb2)
      have HOW := hid (fun o1 => show OwnK (w2.alloc o1) w.heap.size 113 2 v ((rowsL (entG l) p 16 k).map entC) from HO2.out.alloc o1)
      have HNR := hid (show Rk (w2.alloc (.cells #[.int .u64 x.1, .int .u64 x.2] 113)) 2 (some ⟨w2.heap.size, 0, none⟩) 1 [entC x] from row_rk (Row.new w2 113 (entC x)) rfl)
      have HNB := hid (fun o1 => HB2.out.alloc HB2.out.size o1)
      have HNZ := hid (fun o1 => show w.heap.size ≤ (w2.alloc o1).heap.size from (HNB.out o1).size)
      have HONE := hid (entC_one [x])
      clear hb2
      go_wp2_with (at_builtin; go_must (refine wpList_appKg Tryd.underlying80 infoRowE rfl (by decide) rfl _ _ rfl w.heap.size v ((rowsL (entG l) p 16 k).map entC) [entC x] rfl (some ⟨w2.heap.size, 0, none⟩) 1 1 rfl (HOW.out _) HNR.out HONE.out (fun h => by cases h) HN1.out HN2.out (HNZ.out _) ?_; intro v' w9 hown hgrow hb9; have HO9 := hid hown; have HB9 := hid ((HNB.out _).trans hb9); clear hown hgrow hb9))
      go_roundw
      case rel => exact ⟨k + 1, _, HM.out, rfl, by go_num, by rw [HT.out, List.map_append, List.map_singleton, ← HX.out]; exact HO9.out, HB9.out⟩
      case measure => simp [intOf]; omega
    · have d1 : decide ((k : Int) < (m : Int)) = false := by simp; omega
      have d1n : decide (k < m) = false := by simp; omega
      obtain rfl : k = m := by omega
      clear hpp hii hll
      go_wp2_with fail
      go_ret
      exact ⟨_, rfl, HO.out, HB.out⟩
theorem infoRowU : (Tryd.prog.info? 24).map (fun i => (i.zero, i.size, i.bytes)) = some (some (.int .u64 0), 1, 8) := by kernel_rfl
theorem lnkC_one (xs : List _) : ∀ r ∈ xs.map lnkC, ∀ u ∈ r, u.oneCell' = true := by
  intro r hr u hu
  obtain ⟨x, _, rfl⟩ := List.mem_map.1 hr
  unfold lnkC at hu
  simp only [List.mem_cons, List.not_mem_nil, or_false] at hu
  rcases hu with rfl <;> rfl
theorem lnkC_len (xs : List _) : ∀ r ∈ xs.map lnkC, r.length = 1 := by
  intro r hr
  obtain ⟨x, _, rfl⟩ := List.mem_map.1 hr
  rfl
set_option maxRecDepth 100000 in
set_option maxHeartbeats 8000000 in
theorem rowsU_any (a : Option Addr) (len cap : Nat) (l : BL) (p : Int) (m : Nat) (w : World) (hs : Sizes w) (hl : len ≤ 1000000000) (hB : Byt w a len l) (hp : 0 ≤ p) (hin : p + (m : Int) * 4 ≤ len) :
    Calls Tryd.prog 65 #[.slice a len cap, .int .u64 p, .int .u64 m, .int .u64 4, .func (.func 66) #[] #[]] w fun e w' => ∃ v, e = .returned v ∧ OwnK w' w.heap.size 24 1 v ((rowsL (lnkG l) p 4 m).map lnkC) ∧ Below w.heap.size w w' := by
  have HR := hid (fun (wx : World) (hb : Below w.heap.size w wx) (q : Int) (h0 : 0 ≤ q) (h1 : q ≤ 1000000000000) => linkAt_any a len cap q l wx (hs.below hb) (by omega) (hB.below' hb) h0)
  have HP := hid hp
  have HIN := hid hin
  have HL := hid hl
  clear hs hB hp hin hl
  go_enter Tryd.func65, Tryd.ntmps65
  go_wp2_with fail
  go_loopw [11, 14] (fun v i wr => ∃ (k : Nat) (sv : Value), k ≤ m ∧ sv = v ∧ i = .int .u64 k ∧ OwnK wr w.heap.size 24 1 sv ((rowsL (lnkG l) p 4 k).map lnkC) ∧ Below w.heap.size w wr) (fun _ i _ => m - (intOf i).toNat)
  case atStart => exact ⟨0, _, Nat.zero_le _, rfl, rfl, ⟨rfl, .inl ⟨rfl, rfl⟩⟩, Below.refl _ _⟩
  case round =>
    obtain ⟨k, v, hk, rfl, rfl, hown, hb⟩ := hrel
    have HO := hid hown
    have HB := hid hb
    clear hown hb
    have hpp := HP.out
    have hii := HIN.out
    have hll := HL.out
    by_cases hlt : k < m
    · have d1 : decide ((k : Int) < (m : Int)) = true := by simp; omega
      have d1n : decide (k < m) = true := by simp; omega
      have ew0 := IntWalk.u64_in (k : Int) ⟨by omega, by omega⟩
      have ew1 := IntWalk.u64_in ((k : Int) * 4) ⟨by omega, by omega⟩
      have ew2 := IntWalk.u64_in (p + (k : Int) * 4) ⟨by omega, by omega⟩
      have ew3 := IntWalk.u64_in ((k : Int) + 1) ⟨by omega, by omega⟩
      obtain ⟨x, hx⟩ : ∃ x, x = lnkG l (p + (k : Int) * 4) := ⟨_, rfl⟩
      have HX := hid hx
      have HCALL := hid (show Calls Tryd.prog 66 #[.slice a len cap, .int .u64 (p + (k : Int) * 4)] wr (fun e w' => e = .returned (.int .u64 x) ∧ Below wr.heap.size wr w') from by
        rw [hx]
        exact HR.out wr HB.out _ (by omega) (by omega))
      have HT := hid (rowsL_snoc (lnkG l) p 4 k)
      have HN1 := hid (show (((rowsL (lnkG l) p 4 k).map lnkC).length + 1) * 8 ≤ 140737488355328 by rw [List.length_map, rowsL_len]; omega)
      have HN2 := hid (show ((rowsL (lnkG l) p 4 k).map lnkC).length + 1 ≤ maxLen by rw [List.length_map, rowsL_len]; unfold maxLen; omega)
      have HM := hid (show k + 1 ≤ m by omega)
      clear hx hpp hii hll
      go_wp2_with fail
      refine HCALL.out.mono ?_
      rintro e' w2 ⟨rfl, hb2⟩
      have HB2 := hid (HB.out.trans (hb2.mono HB.out.size))
      have HO2 := hid (own_below HO.out hb2)
      have HOW := hid (fun o1 => show OwnK (w2.alloc o1) w.heap.size 24 1 v ((rowsL (lnkG l) p 4 k).map lnkC) from HO2.out.alloc o1)
      have HNR := hid (show Rk (w2.alloc (.cells #[.int .u64 x] 24)) 1 (some ⟨w2.heap.size, 0, none⟩) 1 [lnkC x] from row_rk (Row.new w2 24 (lnkC x)) rfl)
      have HNB := hid (fun o1 => HB2.out.alloc HB2.out.size o1)
      have HNZ := hid (fun o1 => show w.heap.size ≤ (w2.alloc o1).heap.size from (HNB.out o1).size)
      have HONE := hid (lnkC_one [x])
      clear hb2
      go_wp2_with (at_builtin; go_must (refine wpList_appKg Tryd.underlying56 infoRowU rfl (by decide) rfl _ _ rfl w.heap.size v ((rowsL (lnkG l) p 4 k).map lnkC) [lnkC x] rfl (some ⟨w2.heap.size, 0, none⟩) 1 1 rfl (HOW.out _) HNR.out HONE.out (fun h => by cases h) HN1.out HN2.out (HNZ.out _) ?_; intro v' w9 hown hgrow hb9; have HO9 := hid hown; have HB9 := hid ((HNB.out _).trans hb9); clear hown hgrow hb9))
      go_roundw
      case rel => exact ⟨k + 1, _, HM.out, rfl, by go_num, by rw [HT.out, List.map_append, List.map_singleton, ← HX.out]; exact HO9.out, HB9.out⟩
      case measure => simp [intOf]; omega
    · have d1 : decide ((k : Int) < (m : Int)) = false := by simp; omega
      have d1n : decide (k < m) = false := by simp; omega
      obtain rfl : k = m := by omega
      clear hpp hii hll
      go_wp2_with fail
      go_ret
      exact ⟨_, rfl, HO.out, HB.out⟩
theorem infoRowS : (Tryd.prog.info? 142).map (fun i => (i.zero, i.size, i.bytes)) = some (some (.agg #[.int .u64 0, .string ⟨#[]⟩, .int .u64 0, .int .u64 0, .int .u8 0, .bool false]), 6, 48) := by kernel_rfl
theorem symC_one (xs : List _) : ∀ r ∈ xs.map symC, ∀ u ∈ r, u.oneCell' = true := by
  intro r hr u hu
  obtain ⟨x, _, rfl⟩ := List.mem_map.1 hr
  unfold symC at hu
  simp only [List.mem_cons, List.not_mem_nil, or_false] at hu
  rcases hu with rfl | rfl | rfl | rfl | rfl | rfl <;> rfl
theorem symC_len (xs : List _) : ∀ r ∈ xs.map symC, r.length = 6 := by
  intro r hr
  obtain ⟨x, _, rfl⟩ := List.mem_map.1 hr
  rfl
set_option maxRecDepth 100000 in
set_option maxHeartbeats 8000000 in
theorem rowsS_any (a : Option Addr) (len cap : Nat) (l : BL) (p : Int) (m : Nat) (w : World) (hs : Sizes w) (hl : len ≤ 1000000000) (hB : Byt w a len l) (hp : 0 ≤ p) (hin : p + (m : Int) * 24 ≤ len) :
    Calls Tryd.prog 67 #[.slice a len cap, .int .u64 p, .int .u64 m, .int .u64 24, .func (.func 68) #[] #[]] w fun e w' => ∃ v, e = .returned v ∧ OwnK w' w.heap.size 142 6 v ((rowsL (symG l) p 24 m).map symC) ∧ Below w.heap.size w w' := by
  have HR := hid (fun (wx : World) (hb : Below w.heap.size w wx) (q : Int) (h0 : 0 ≤ q) (h1 : q ≤ 1000000000000) => symAt_any a len cap q l wx (hs.below hb) (by omega) (hB.below' hb) h0 h1)
  have HP := hid hp
  have HIN := hid hin
  have HL := hid hl
  clear hs hB hp hin hl
  go_enter Tryd.func67, Tryd.ntmps67
  go_wp2_with fail
  go_loopw [11, 14] (fun v i wr => ∃ (k : Nat) (sv : Value), k ≤ m ∧ sv = v ∧ i = .int .u64 k ∧ OwnK wr w.heap.size 142 6 sv ((rowsL (symG l) p 24 k).map symC) ∧ Below w.heap.size w wr) (fun _ i _ => m - (intOf i).toNat)
  case atStart => exact ⟨0, _, Nat.zero_le _, rfl, rfl, ⟨rfl, .inl ⟨rfl, rfl⟩⟩, Below.refl _ _⟩
  case round =>
    obtain ⟨k, v, hk, rfl, rfl, hown, hb⟩ := hrel
    have HO := hid hown
    have HB := hid hb
    clear hown hb
    have hpp := HP.out
    have hii := HIN.out
    have hll := HL.out
    by_cases hlt : k < m
    · have d1 : decide ((k : Int) < (m : Int)) = true := by simp; omega
      have d1n : decide (k < m) = true := by simp; omega
      have ew0 := IntWalk.u64_in (k : Int) ⟨by omega, by omega⟩
      have ew1 := IntWalk.u64_in ((k : Int) * 24) ⟨by omega, by omega⟩
      have ew2 := IntWalk.u64_in (p + (k : Int) * 24) ⟨by omega, by omega⟩
      have ew3 := IntWalk.u64_in ((k : Int) + 1) ⟨by omega, by omega⟩
      obtain ⟨x, hx⟩ : ∃ x, x = symG l (p + (k : Int) * 24) := ⟨_, rfl⟩
      have HX := hid hx
      have HCALL := hid (show Calls Tryd.prog 68 #[.slice a len cap, .int .u64 (p + (k : Int) * 24)] wr (fun e w' => e = .returned (.agg #[.int .u64 x.name, .string ⟨#[]⟩, .int .u64 x.value, .int .u64 x.size, .int .u8 x.bind, .bool x.deff]) ∧ Below wr.heap.size wr w') from by
        rw [hx]
        exact HR.out wr HB.out _ (by omega) (by omega))
      have HT := hid (rowsL_snoc (symG l) p 24 k)
      have HN1 := hid (show (((rowsL (symG l) p 24 k).map symC).length + 1) * 48 ≤ 140737488355328 by rw [List.length_map, rowsL_len]; omega)
      have HN2 := hid (show ((rowsL (symG l) p 24 k).map symC).length + 1 ≤ maxLen by rw [List.length_map, rowsL_len]; unfold maxLen; omega)
      have HM := hid (show k + 1 ≤ m by omega)
      clear hx hpp hii hll
      go_wp2_with fail
      refine HCALL.out.mono ?_
      rintro e' w2 ⟨rfl, hb2⟩
      have HB2 := hid (HB.out.trans (hb2.mono HB.out.size))
      have HO2 := hid (own_below HO.out hb2)
      have HOW := hid (fun o1 => show OwnK (w2.alloc o1) w.heap.size 142 6 v ((rowsL (symG l) p 24 k).map symC) from HO2.out.alloc o1)
      have HNR := hid (show Rk (w2.alloc (.cells #[.int .u64 x.name, .string ⟨#[]⟩, .int .u64 x.value, .int .u64 x.size, .int .u8 x.bind, .bool x.deff] 142)) 6 (some ⟨w2.heap.size, 0, none⟩) 1 [symC x] from row_rk (Row.new w2 142 (symC x)) rfl)
      have HNB := hid (fun o1 => HB2.out.alloc HB2.out.size o1)
      have HNZ := hid (fun o1 => show w.heap.size ≤ (w2.alloc o1).heap.size from (HNB.out o1).size)
      have HONE := hid (symC_one [x])
      clear hb2
      go_wp2_with (at_builtin; go_must (refine wpList_appKg Tryd.underlying123 infoRowS rfl (by decide) rfl _ _ rfl w.heap.size v ((rowsL (symG l) p 24 k).map symC) [symC x] rfl (some ⟨w2.heap.size, 0, none⟩) 1 1 rfl (HOW.out _) HNR.out HONE.out (fun h => by cases h) HN1.out HN2.out (HNZ.out _) ?_; intro v' w9 hown hgrow hb9; have HO9 := hid hown; have HB9 := hid ((HNB.out _).trans hb9); clear hown hgrow hb9))
      go_roundw
      case rel => exact ⟨k + 1, _, HM.out, rfl, by go_num, by rw [HT.out, List.map_append, List.map_singleton, ← HX.out]; exact HO9.out, HB9.out⟩
      case measure => simp [intOf]; omega
    · have d1 : decide ((k : Int) < (m : Int)) = false := by simp; omega
      have d1n : decide (k < m) = false := by simp; omega
      obtain rfl : k = m := by omega
      clear hpp hii hll
      go_wp2_with fail
      go_ret
      exact ⟨_, rfl, HO.out, HB.out⟩
theorem infoRowR : (Tryd.prog.info? 49).map (fun i => (i.zero, i.size, i.bytes)) = some (some (.agg #[.int .u64 0, .int .u32 0, .int .i64 0, .int .i64 0]), 4, 32) := by kernel_rfl
theorem relC_one (xs : List _) : ∀ r ∈ xs.map relC, ∀ u ∈ r, u.oneCell' = true := by
  intro r hr u hu
  obtain ⟨x, _, rfl⟩ := List.mem_map.1 hr
  unfold relC at hu
  simp only [List.mem_cons, List.not_mem_nil, or_false] at hu
  rcases hu with rfl | rfl | rfl | rfl <;> rfl
theorem relC_len (xs : List _) : ∀ r ∈ xs.map relC, r.length = 4 := by
  intro r hr
  obtain ⟨x, _, rfl⟩ := List.mem_map.1 hr
  rfl
set_option maxRecDepth 100000 in
set_option maxHeartbeats 8000000 in
theorem rowsR_any (a : Option Addr) (len cap : Nat) (l : BL) (p : Int) (m : Nat) (w : World) (hs : Sizes w) (hl : len ≤ 1000000000) (hB : Byt w a len l) (hp : 0 ≤ p) (hin : p + (m : Int) * 24 ≤ len) :
    Calls Tryd.prog 69 #[.slice a len cap, .int .u64 p, .int .u64 m, .int .u64 24, .func (.func 70) #[] #[]] w fun e w' => ∃ v, e = .returned v ∧ OwnK w' w.heap.size 49 4 v ((rowsL (relG l) p 24 m).map relC) ∧ Below w.heap.size w w' := by
  have HR := hid (fun (wx : World) (hb : Below w.heap.size w wx) (q : Int) (h0 : 0 ≤ q) (h1 : q ≤ 1000000000000) => relaAt_any a len cap q l wx (hs.below hb) (by omega) (hB.below' hb) h0 h1)
  have HP := hid hp
  have HIN := hid hin
  have HL := hid hl
  clear hs hB hp hin hl
  go_enter Tryd.func69, Tryd.ntmps69
  go_wp2_with fail
  go_loopw [11, 14] (fun v i wr => ∃ (k : Nat) (sv : Value), k ≤ m ∧ sv = v ∧ i = .int .u64 k ∧ OwnK wr w.heap.size 49 4 sv ((rowsL (relG l) p 24 k).map relC) ∧ Below w.heap.size w wr) (fun _ i _ => m - (intOf i).toNat)
  case atStart => exact ⟨0, _, Nat.zero_le _, rfl, rfl, ⟨rfl, .inl ⟨rfl, rfl⟩⟩, Below.refl _ _⟩
  case round =>
    obtain ⟨k, v, hk, rfl, rfl, hown, hb⟩ := hrel
    have HO := hid hown
    have HB := hid hb
    clear hown hb
    have hpp := HP.out
    have hii := HIN.out
    have hll := HL.out
    by_cases hlt : k < m
    · have d1 : decide ((k : Int) < (m : Int)) = true := by simp; omega
      have d1n : decide (k < m) = true := by simp; omega
      have ew0 := IntWalk.u64_in (k : Int) ⟨by omega, by omega⟩
      have ew1 := IntWalk.u64_in ((k : Int) * 24) ⟨by omega, by omega⟩
      have ew2 := IntWalk.u64_in (p + (k : Int) * 24) ⟨by omega, by omega⟩
      have ew3 := IntWalk.u64_in ((k : Int) + 1) ⟨by omega, by omega⟩
      obtain ⟨x, hx⟩ : ∃ x, x = relG l (p + (k : Int) * 24) := ⟨_, rfl⟩
      have HX := hid hx
      have HCALL := hid (show Calls Tryd.prog 70 #[.slice a len cap, .int .u64 (p + (k : Int) * 24)] wr (fun e w' => e = .returned (.agg #[.int .u64 x.off, .int .u32 x.typ, .int .i64 x.sym, .int .i64 x.add]) ∧ Below wr.heap.size wr w') from by
        rw [hx]
        exact HR.out wr HB.out _ (by omega) (by omega))
      have HT := hid (rowsL_snoc (relG l) p 24 k)
      have HN1 := hid (show (((rowsL (relG l) p 24 k).map relC).length + 1) * 32 ≤ 140737488355328 by rw [List.length_map, rowsL_len]; omega)
      have HN2 := hid (show ((rowsL (relG l) p 24 k).map relC).length + 1 ≤ maxLen by rw [List.length_map, rowsL_len]; unfold maxLen; omega)
      have HM := hid (show k + 1 ≤ m by omega)
      clear hx hpp hii hll
      go_wp2_with fail
      refine HCALL.out.mono ?_
      rintro e' w2 ⟨rfl, hb2⟩
      have HB2 := hid (HB.out.trans (hb2.mono HB.out.size))
      have HO2 := hid (own_below HO.out hb2)
      have HOW := hid (fun o1 => show OwnK (w2.alloc o1) w.heap.size 49 4 v ((rowsL (relG l) p 24 k).map relC) from HO2.out.alloc o1)
      have HNR := hid (show Rk (w2.alloc (.cells #[.int .u64 x.off, .int .u32 x.typ, .int .i64 x.sym, .int .i64 x.add] 49)) 4 (some ⟨w2.heap.size, 0, none⟩) 1 [relC x] from row_rk (Row.new w2 49 (relC x)) rfl)
      have HNB := hid (fun o1 => HB2.out.alloc HB2.out.size o1)
      have HNZ := hid (fun o1 => show w.heap.size ≤ (w2.alloc o1).heap.size from (HNB.out o1).size)
      have HONE := hid (relC_one [x])
      clear hb2
      go_wp2_with (at_builtin; go_must (refine wpList_appKg Tryd.underlying39 infoRowR rfl (by decide) rfl _ _ rfl w.heap.size v ((rowsL (relG l) p 24 k).map relC) [relC x] rfl (some ⟨w2.heap.size, 0, none⟩) 1 1 rfl (HOW.out _) HNR.out HONE.out (fun h => by cases h) HN1.out HN2.out (HNZ.out _) ?_; intro v' w9 hown hgrow hb9; have HO9 := hid hown; have HB9 := hid ((HNB.out _).trans hb9); clear hown hgrow hb9))
      go_roundw
      case rel => exact ⟨k + 1, _, HM.out, rfl, by go_num, by rw [HT.out, List.map_append, List.map_singleton, ← HX.out]; exact HO9.out, HB9.out⟩
      case measure => simp [intOf]; omega
    · have d1 : decide ((k : Int) < (m : Int)) = false := by simp; omega
      have d1n : decide (k < m) = false := by simp; omega
      obtain rfl : k = m := by omega
      clear hpp hii hll
      go_wp2_with fail
      go_ret
      exact ⟨_, rfl, HO.out, HB.out⟩
end Go.Proofs.YtkkadknijjninaaDoor
