/- SymbolsOrder: the walk. -/
import Derived.Test.YtblefgkhikfmhaaSyJ
namespace Go.Proofs.Ytblefgkhikfmhaa
open Go.RowKit Go.Sort Go.Shelf
attribute [local go_sem] Oper.semAt_some

def obV (x : OB) : Value := .agg #[.int .i64 x.ino, .int .u64 x.base, .int .u16 x.typ, .int .u64 x.entry, .int .u64 x.phoff, .slice x.ga x.gn x.gc, .slice x.na x.nn x.nc, .string (ba x.soname), .string (ba x.run), .slice x.sa x.sn x.sc, .slice x.ra x.rn x.rc]
abbrev obB (x : OB) : Obj := .cells #[.int .i64 x.ino, .int .u64 x.base, .int .u16 x.typ, .int .u64 x.entry, .int .u64 x.phoff, .slice x.ga x.gn x.gc, .slice x.na x.nn x.nc, .string (ba x.soname), .string (ba x.run), .slice x.sa x.sn x.sc, .slice x.ra x.rn x.rc] 44

theorem noN {ad : Addr} {c : Nat} (h : some ad = none) : c = 0 := by cases h
theorem box_cells {w : World} {g : Nat} {x : OB} (h : Row w g 44 (obC x)) :
    (w.cell? ⟨g, 0, none⟩ = some (.int .i64 x.ino) ∧ w.cell? ⟨g, 1, none⟩ = some (.int .u64 x.base) ∧ w.cell? ⟨g, 2, none⟩ = some (.int .u16 x.typ) ∧ w.cell? ⟨g, 3, none⟩ = some (.int .u64 x.entry) ∧ w.cell? ⟨g, 4, none⟩ = some (.int .u64 x.phoff) ∧ w.cell? ⟨g, 5, none⟩ = some (.slice x.ga x.gn x.gc)) ∧
    (w.cell? ⟨g, 6, none⟩ = some (.slice x.na x.nn x.nc) ∧ w.cell? ⟨g, 7, none⟩ = some (.string (ba x.soname)) ∧ w.cell? ⟨g, 8, none⟩ = some (.string (ba x.run)) ∧ w.cell? ⟨g, 9, none⟩ = some (.slice x.sa x.sn x.sc) ∧ w.cell? ⟨g, 10, none⟩ = some (.slice x.ra x.rn x.rc)) ∧ g < w.heap.size :=
  ⟨⟨h.cell 0 (by simp [obC]), h.cell 1 (by simp [obC]), h.cell 2 (by simp [obC]), h.cell 3 (by simp [obC]), h.cell 4 (by simp [obC]), h.cell 5 (by simp [obC])⟩, ⟨h.cell 6 (by simp [obC]), h.cell 7 (by simp [obC]), h.cell 8 (by simp [obC]), h.cell 9 (by simp [obC]), h.cell 10 (by simp [obC])⟩, h.lt⟩
theorem osL_snoc (xs : List OB) (x : OB) : osL (xs ++ [x]) = osL xs ++ [toOS x] := by simp [osL]
theorem osL_cons (xs : List OB) (x : OB) : osL ([x] ++ xs) = toOS x :: osL xs := by simp [osL]
theorem osL_one (x : OB) : osL [x] = [toOS x] := rfl
theorem sn_app {xs ys : List OB} (h1 : ∀ x ∈ xs, x.sn ≤ 4000000000000) (h2 : ∀ x ∈ ys, x.sn ≤ 4000000000000) : ∀ x ∈ xs ++ ys, x.sn ≤ 4000000000000 := by
  intro x hx; rcases List.mem_append.1 hx with h | h
  · exact h1 x h
  · exact h2 x h
theorem sy_app {w : World} {xs ys : List OB} (h1 : ∀ x ∈ xs, Rk w 5 x.sa x.sn (x.sy.map syC)) (h2 : ∀ x ∈ ys, Rk w 5 x.sa x.sn (x.sy.map syC)) : ∀ x ∈ xs ++ ys, Rk w 5 x.sa x.sn (x.sy.map syC) := by
  intro x hx; rcases List.mem_append.1 hx with h | h
  · exact h1 x h
  · exact h2 x h

theorem one_rk (w : World) (x : OB) : Rk (w.alloc (obB x)) 11 (some ⟨w.heap.size, 0, none⟩) 1 ([x].map obC) :=
  Row.rk (k := 11) (rows := [obC x]) (show Row (w.alloc (obB x)) w.heap.size 44 (obC x ++ []) from by rw [List.append_nil]; exact Row.new w 44 (obC x)) (by intro r hr; rw [List.mem_singleton.1 hr]; rfl)
theorem le_alloc {w : World} {o : Obj} {n : Nat} (h : n ≤ w.heap.size) : n ≤ (w.alloc o).heap.size := by rw [World.size_alloc]; omega

set_option maxRecDepth 100000 in
set_option maxHeartbeats 8000000 in
theorem symbolsOrder_walk (a : Option Addr) (len cap : Nat) (xs : List OB) (x : OB) (nm : BL) (w : World) (hO : Objs w a len xs) (hl : len ≤ 1000000000000) (hca : a = none → cap = 0) (hsn : ∀ x ∈ xs, x.sn ≤ 4000000000000) (hnm : ∀ x ∈ xs, ∀ s ∈ x.sy, s.name.length ≤ 140737488351232)
    (hx : Rk w 5 x.sa x.sn (x.sy.map syC)) (hxn : x.sn ≤ 4000000000000) (hxm : ∀ s ∈ x.sy, s.name.length ≤ 140737488351232) (hn : nm.length ≤ 140737488351232) :
    Calls Try.prog 6 #[.slice a len cap, obV x, .string (ba nm)] w fun e' w' => e' = .returned (.bool true) ∧ Below w.heap.size w w' := by
  obtain rfl := hO.hlen
  have hol : (osL xs).length = xs.length := by simp [osL]
  have HCA := hid hca
  have HSN := hid hsn
  have hz : (ba nm).size ≤ 140737488351232 := by rw [ba_size]; exact hn
  have HZ := hid hz
  have HX1 := hid (show ∀ y ∈ [x], y.sn ≤ 4000000000000 from fun y hy => by rw [List.mem_singleton.1 hy]; exact hxn)
  have HX2 := hid (show ∀ y ∈ [x], ∀ s ∈ y.sy, s.name.length ≤ 140737488351232 from fun y hy => by rw [List.mem_singleton.1 hy]; exact hxm)
  have HXY := hid hx
  have HO := hid hO
  have HB0 := hid (show Below w.heap.size w (w.alloc (obB x)) from bal _)
  have HR0 := hid (show Row (w.alloc (obB x)) w.heap.size 44 (obC x) from Row.new w 44 (obC x))
  have HO0 := hid (hO.below' HB0.out)
  have hL := hid (large_any a xs.length cap xs _ HO0.out hl hsn hnm)
  clear hO hsn hnm hn hx hxn hxm hca
  unfold obV
  go_enter Try.func6, Try.ntmps6
  go_wp2_with fail
  refine (hL.out).mono ?_
  rintro e' w' ⟨b, rfl, hw, hb⟩
  subst hw
  clear hL
  cases b
  · obtain ⟨hb1, hb2⟩ := hb rfl
    clear hb hb2
    have HOA := hid (show Objs ((w.alloc (obB x)).alloc (obB x)) (some ⟨w.heap.size + 1, 0, none⟩) 1 [x] from objs_one (by have := Row.new (w.alloc (obB x)) 44 (obC x); rw [World.size_alloc] at this; exact this) (HXY.out.below' (HB0.out.alloc HB0.out.size _)))
    have HBA := hid (show Below (w.heap.size + 1) (w.alloc (obB x)) ((w.alloc (obB x)).alloc (obB x)) from (Below.refl _ _).alloc (by simp) _)
    have HLA := hid (large_any _ 1 1 [x] _ HOA.out (by omega) HX1.out HX2.out)
    go_wp2_with fail
    refine (HLA.out).mono ?_
    rintro e' w' ⟨b, rfl, hw, _⟩
    subst hw
    clear HLA HOA
    cases b
    · by_cases hbig : 65536 < (ba nm).size
      · have d1 : decide ((65536 : Int) < ((ba nm).size : Int)) = true := by simp; omega
        have HBQ := hid (HB0.out.trans (HBA.out.mono (Nat.le_succ _)))
        go_wp2_with fail
        refine (works_any _).mono ?_
        rintro e' w9 ⟨rfl, hb⟩
        have HBZ := hid (HBQ.out.trans (hb.mono HBQ.out.size))
        clear hb
        go_wp2_with fail
        go_ret
        exact ⟨rfl, HBZ.out⟩
      · have d1 : decide ((65536 : Int) < ((ba nm).size : Int)) = false := by simp; omega
        clear hbig
        have HOB := hid (HO0.out.below' (HBA.out.mono (by simp)))
        have HB1 := hid HBA.out
        go_wp2_with fail
        refine (lookup_any a xs.length cap xs (ba nm) _ HOB.out hl HSN.out).mono ?_
        rintro e' w2 ⟨rfl, hb⟩
        have HB2 := hid (HB1.out.trans (hb.mono (by simp)))
        have HBW2 := hid (HB0.out.trans (HB2.out.mono (Nat.le_succ _)))
        clear hb HOB HBA HB1
        rw [show (ba nm).data.toList = nm from rfl]
        have HN0 := hid (show ([] : List OB).length ≤ 1000000 by simp)
        have HN3 := hid (show xs.length ≤ 1000000 by omega)
        have HN4 := hid (show (1 : Nat) ≤ 1000000 by omega)
        have HE0 := hid (show ([] ++ xs).length = xs.length from rfl)
        have HE1 := hid (show (xs ++ [x]).length = xs.length + 1 by simp)
        have HE2 := hid (show ([x] ++ xs).length = xs.length + 1 by simp)
        have HX3 := hid (show ∀ y ∈ [x], Rk w 5 y.sa y.sn (y.sy.map syC) from fun y hy => by rw [List.mem_singleton.1 hy]; exact HXY.out)
        have HAH0 := hid (show lookL (osL ([x] ++ xs)) nm = (hitO (toOS x) nm).or ((lookL (osL xs) nm).map shiftD) by rw [osL_cons]; exact look_ahead (toOS x) (osL xs) nm)
        have HHO0 := hid (show lookL (osL [x]) nm = hitO (toOS x) nm by rw [osL_one]; exact look_one (toOS x) nm)
        have HBN := hid (fun d (h : lookL (osL xs) nm = some d) => show lookL (osL (xs ++ [x])) nm = some d by rw [osL_snoc]; exact look_behind h)
        have HBM := hid (fun (h : lookL (osL xs) nm = none) (h2 : hitO (toOS x) nm = none) => show lookL (osL (xs ++ [x])) nm = none by rw [osL_snoc]; exact look_behind_none h h2)
        cases hlk : lookL (osL xs) nm with
        | none =>
          rw [hlk] at HAH0
          cases hho : hitO (toOS x) nm with
          | none =>
            rw [hho] at HAH0 HHO0
            have HAF := hid (HBM.out hlk hho)
            have HAH := hid (show lookL (osL ([x] ++ xs)) nm = none from HAH0.out)
            have HHO := hid (show lookL (osL [x]) nm = none from HHO0.out)
            clear hlk hho HBM HBN HAH0 HHO0
            have HO2 := hid (HO.out.below' HBW2.out)
            have hsz2 : w.heap.size + 1 ≤ w2.heap.size := by have := HB2.out.size; simpa using this
            simp only [lkV]
            go_wp2_with (at_builtin; first
              | (refine wpList_appO rfl _ _ rfl w2.heap.size (.slice none 0 0) [] xs rfl a xs.length cap rfl (ownO_nil _ _) HO2.out.rows HCA.out HN0.out HN3.out (Nat.le_refl _) ?_; intro v3 w3 ho hb; obtain ⟨a3, e3, rfl, _⟩ := ownO_objs HE0.out ho (fun y hy => (HO2.out.below' hb).syms y hy); have HO3 := hid (show OwnO (w3.alloc (obB x)) w2.heap.size (.slice a3 xs.length e3) xs from ho.alloc (obB x)); have HB3 := hid (HB2.out.trans (hb.mono hsz2)); obtain ⟨⟨c0, c1, c2, c3, c4, c5⟩, ⟨c6, c7, c8, c9, c10⟩, hbx⟩ := box_cells (HR0.out.below HB3.out (Nat.lt_succ_self _)); have HS3 := hid (le_alloc (o := obB x) hb.size); have HB3a := hid (HB3.out.alloc (Nat.le_trans hsz2 hb.size) (obB x)); clear ho hb)
              | (refine wpList_appO rfl _ _ rfl w2.heap.size (.slice a3 xs.length e3) xs [x] rfl (some ⟨w3.heap.size, 0, none⟩) 1 1 rfl HO3.out (one_rk _ _) noN HN3.out HN4.out HS3.out ?_; intro v4 w4 ho hb; have HB4 := hid (HB3a.out.trans (hb.mono hsz2)); have HW4 := hid (HB0.out.trans (HB4.out.mono (Nat.le_succ _))); obtain ⟨a4, e4, rfl, hobj, _⟩ := ownO_objs HE1.out ho (sy_app (HO.out.below' HW4.out).syms (fun y hy => (HX3.out y hy).below' HW4.out)); have HO4 := hid hobj; clear ho hb hobj c0 c1 c2 c3 c4 c5 c6 c7 c8 c9 c10 hbx))
            refine (lookup_any a4 (xs.length + 1) e4 (xs ++ [x]) (ba nm) w4 HO4.out (by omega) (sn_app HSN.out HX1.out)).mono ?_
            rintro e' w5 ⟨rfl, hb⟩
            have hsz4 : w.heap.size + 1 ≤ w4.heap.size := by have := HB4.out.size; simpa using this
            have HB5 := hid (HB4.out.trans (hb.mono hsz4))
            have HW5 := hid (HB0.out.trans (HB5.out.mono (Nat.le_succ _)))
            have HO5 := hid (HO.out.below' (HW5.out.alloc HW5.out.size (obB x)))
            have hsz5 : w.heap.size + 1 ≤ w5.heap.size := by have := HB5.out.size; simpa using this
            have HB5a := hid (HB5.out.alloc hsz5 (obB x))
            obtain ⟨⟨c0, c1, c2, c3, c4, c5⟩, ⟨c6, c7, c8, c9, c10⟩, hbx⟩ := box_cells (HR0.out.below HB5.out (Nat.lt_succ_self _))
            clear hb
            rw [show (ba nm).data.toList = nm from rfl, HAF.out]
            simp only [lkV]
            go_wp2_with (at_builtin; (refine wpList_appO rfl _ _ rfl w5.heap.size (.slice (some ⟨w5.heap.size, 0, none⟩) 1 1) [x] xs rfl a xs.length cap rfl (ownO_one (Row.new _ _ _) (Nat.le_refl _)) HO5.out.rows HCA.out HN4.out HN3.out (le_alloc (Nat.le_refl _)) ?_; intro v6 w6 ho hb; have HB6 := hid (HB5a.out.trans (hb.mono hsz5)); have HW6 := hid (HB0.out.trans (HB6.out.mono (Nat.le_succ _))); obtain ⟨a6, e6, rfl, hobj, _⟩ := ownO_objs HE2.out ho (sy_app (fun y hy => (HX3.out y hy).below' HW6.out) (HO.out.below' HW6.out).syms); have HO6 := hid hobj; clear ho hb hobj c0 c1 c2 c3 c4 c5 c6 c7 c8 c9 c10 hbx))
            refine (lookup_any a6 (xs.length + 1) e6 ([x] ++ xs) (ba nm) w6 HO6.out (by omega) (sn_app HX1.out HSN.out)).mono ?_
            rintro e' w7 ⟨rfl, hb⟩
            have hsz6 : w.heap.size + 1 ≤ w6.heap.size := by have := HB6.out.size; simpa using this
            have HB7 := hid (HB6.out.trans (hb.mono hsz6))
            have HW7 := hid (HB0.out.trans (HB7.out.mono (Nat.le_succ _)))
            have hsz7 : w.heap.size + 1 ≤ w7.heap.size := by have := HB7.out.size; simpa using this
            have HB7a := hid (HB7.out.alloc hsz7 (obB x))
            have HW7a := hid (HW7.out.alloc HW7.out.size (obB x))
            obtain ⟨⟨c0, c1, c2, c3, c4, c5⟩, ⟨c6, c7, c8, c9, c10⟩, hbx⟩ := box_cells (HR0.out.below HB7.out (Nat.lt_succ_self _))
            clear hb
            rw [show (ba nm).data.toList = nm from rfl, HAH.out]
            simp only [lkV]
            go_wp2_with fail
            refine (lookup_any (some ⟨w7.heap.size, 0, none⟩) 1 1 [x] (ba nm) (w7.alloc (obB x)) (objs_one (Row.new _ _ _) (HXY.out.below' HW7a.out)) (by omega) HX1.out).mono ?_
            rintro e' w8 ⟨rfl, hb⟩
            have HBQ := hid (HW7a.out.trans (hb.mono HW7a.out.size))
            clear hb
            rw [show (ba nm).data.toList = nm from rfl, HHO.out]
            simp only [lkV]
            go_wp2_with fail
            refine (works_any _).mono ?_
            rintro e' w9 ⟨rfl, hb⟩
            have HBZ := hid (HBQ.out.trans (hb.mono HBQ.out.size))
            clear hb
            go_wp2_with fail
            go_ret
            exact ⟨rfl, HBZ.out⟩
          | some h =>
            rw [hho] at HAH0 HHO0
            have hz0 := hit_at hho
            obtain ⟨⟨i0, j0⟩, s0⟩ := h
            dsimp only at hz0
            subst hz0
            have HAH := hid (show lookL (osL ([x] ++ xs)) nm = some ((0, j0), s0) from HAH0.out)
            have HHO := hid (show lookL (osL [x]) nm = some ((0, j0), s0) from HHO0.out)
            clear hlk hho HBM HBN HAH0 HHO0
            cases haf : lookL (osL (xs ++ [x])) nm with
            | none =>
              have HAF := hid haf
              clear haf
              have HO2 := hid (HO.out.below' HBW2.out)
              have hsz2 : w.heap.size + 1 ≤ w2.heap.size := by have := HB2.out.size; simpa using this
              simp only [lkV]
              go_wp2_with (at_builtin; first
                | (refine wpList_appO rfl _ _ rfl w2.heap.size (.slice none 0 0) [] xs rfl a xs.length cap rfl (ownO_nil _ _) HO2.out.rows HCA.out HN0.out HN3.out (Nat.le_refl _) ?_; intro v3 w3 ho hb; obtain ⟨a3, e3, rfl, _⟩ := ownO_objs HE0.out ho (fun y hy => (HO2.out.below' hb).syms y hy); have HO3 := hid (show OwnO (w3.alloc (obB x)) w2.heap.size (.slice a3 xs.length e3) xs from ho.alloc (obB x)); have HB3 := hid (HB2.out.trans (hb.mono hsz2)); obtain ⟨⟨c0, c1, c2, c3, c4, c5⟩, ⟨c6, c7, c8, c9, c10⟩, hbx⟩ := box_cells (HR0.out.below HB3.out (Nat.lt_succ_self _)); have HS3 := hid (le_alloc (o := obB x) hb.size); have HB3a := hid (HB3.out.alloc (Nat.le_trans hsz2 hb.size) (obB x)); clear ho hb)
                | (refine wpList_appO rfl _ _ rfl w2.heap.size (.slice a3 xs.length e3) xs [x] rfl (some ⟨w3.heap.size, 0, none⟩) 1 1 rfl HO3.out (one_rk _ _) noN HN3.out HN4.out HS3.out ?_; intro v4 w4 ho hb; have HB4 := hid (HB3a.out.trans (hb.mono hsz2)); have HW4 := hid (HB0.out.trans (HB4.out.mono (Nat.le_succ _))); obtain ⟨a4, e4, rfl, hobj, _⟩ := ownO_objs HE1.out ho (sy_app (HO.out.below' HW4.out).syms (fun y hy => (HX3.out y hy).below' HW4.out)); have HO4 := hid hobj; clear ho hb hobj c0 c1 c2 c3 c4 c5 c6 c7 c8 c9 c10 hbx))
              refine (lookup_any a4 (xs.length + 1) e4 (xs ++ [x]) (ba nm) w4 HO4.out (by omega) (sn_app HSN.out HX1.out)).mono ?_
              rintro e' w5 ⟨rfl, hb⟩
              have hsz4 : w.heap.size + 1 ≤ w4.heap.size := by have := HB4.out.size; simpa using this
              have HB5 := hid (HB4.out.trans (hb.mono hsz4))
              have HW5 := hid (HB0.out.trans (HB5.out.mono (Nat.le_succ _)))
              have HO5 := hid (HO.out.below' (HW5.out.alloc HW5.out.size (obB x)))
              have hsz5 : w.heap.size + 1 ≤ w5.heap.size := by have := HB5.out.size; simpa using this
              have HB5a := hid (HB5.out.alloc hsz5 (obB x))
              obtain ⟨⟨c0, c1, c2, c3, c4, c5⟩, ⟨c6, c7, c8, c9, c10⟩, hbx⟩ := box_cells (HR0.out.below HB5.out (Nat.lt_succ_self _))
              clear hb
              rw [show (ba nm).data.toList = nm from rfl, HAF.out]
              simp only [lkV]
              go_wp2_with (at_builtin; (refine wpList_appO rfl _ _ rfl w5.heap.size (.slice (some ⟨w5.heap.size, 0, none⟩) 1 1) [x] xs rfl a xs.length cap rfl (ownO_one (Row.new _ _ _) (Nat.le_refl _)) HO5.out.rows HCA.out HN4.out HN3.out (le_alloc (Nat.le_refl _)) ?_; intro v6 w6 ho hb; have HB6 := hid (HB5a.out.trans (hb.mono hsz5)); have HW6 := hid (HB0.out.trans (HB6.out.mono (Nat.le_succ _))); obtain ⟨a6, e6, rfl, hobj, _⟩ := ownO_objs HE2.out ho (sy_app (fun y hy => (HX3.out y hy).below' HW6.out) (HO.out.below' HW6.out).syms); have HO6 := hid hobj; clear ho hb hobj c0 c1 c2 c3 c4 c5 c6 c7 c8 c9 c10 hbx))
              refine (lookup_any a6 (xs.length + 1) e6 ([x] ++ xs) (ba nm) w6 HO6.out (by omega) (sn_app HX1.out HSN.out)).mono ?_
              rintro e' w7 ⟨rfl, hb⟩
              have hsz6 : w.heap.size + 1 ≤ w6.heap.size := by have := HB6.out.size; simpa using this
              have HB7 := hid (HB6.out.trans (hb.mono hsz6))
              have HW7 := hid (HB0.out.trans (HB7.out.mono (Nat.le_succ _)))
              have hsz7 : w.heap.size + 1 ≤ w7.heap.size := by have := HB7.out.size; simpa using this
              have HB7a := hid (HB7.out.alloc hsz7 (obB x))
              have HW7a := hid (HW7.out.alloc HW7.out.size (obB x))
              obtain ⟨⟨c0, c1, c2, c3, c4, c5⟩, ⟨c6, c7, c8, c9, c10⟩, hbx⟩ := box_cells (HR0.out.below HB7.out (Nat.lt_succ_self _))
              clear hb
              rw [show (ba nm).data.toList = nm from rfl, HAH.out]
              simp only [lkV]
              go_wp2_with fail
              refine (lookup_any (some ⟨w7.heap.size, 0, none⟩) 1 1 [x] (ba nm) (w7.alloc (obB x)) (objs_one (Row.new _ _ _) (HXY.out.below' HW7a.out)) (by omega) HX1.out).mono ?_
              rintro e' w8 ⟨rfl, hb⟩
              have HBQ := hid (HW7a.out.trans (hb.mono HW7a.out.size))
              clear hb
              rw [show (ba nm).data.toList = nm from rfl, HHO.out]
              simp only [lkV]
              go_wp2_with fail
              refine (works_any _).mono ?_
              rintro e' w9 ⟨rfl, hb⟩
              have HBZ := hid (HBQ.out.trans (hb.mono HBQ.out.size))
              clear hb
              go_wp2_with fail
              go_ret
              exact ⟨rfl, HBZ.out⟩
            | some r =>
              have HAF := hid haf
              clear haf
              have HO2 := hid (HO.out.below' HBW2.out)
              have hsz2 : w.heap.size + 1 ≤ w2.heap.size := by have := HB2.out.size; simpa using this
              simp only [lkV]
              go_wp2_with (at_builtin; first
                | (refine wpList_appO rfl _ _ rfl w2.heap.size (.slice none 0 0) [] xs rfl a xs.length cap rfl (ownO_nil _ _) HO2.out.rows HCA.out HN0.out HN3.out (Nat.le_refl _) ?_; intro v3 w3 ho hb; obtain ⟨a3, e3, rfl, _⟩ := ownO_objs HE0.out ho (fun y hy => (HO2.out.below' hb).syms y hy); have HO3 := hid (show OwnO (w3.alloc (obB x)) w2.heap.size (.slice a3 xs.length e3) xs from ho.alloc (obB x)); have HB3 := hid (HB2.out.trans (hb.mono hsz2)); obtain ⟨⟨c0, c1, c2, c3, c4, c5⟩, ⟨c6, c7, c8, c9, c10⟩, hbx⟩ := box_cells (HR0.out.below HB3.out (Nat.lt_succ_self _)); have HS3 := hid (le_alloc (o := obB x) hb.size); have HB3a := hid (HB3.out.alloc (Nat.le_trans hsz2 hb.size) (obB x)); clear ho hb)
                | (refine wpList_appO rfl _ _ rfl w2.heap.size (.slice a3 xs.length e3) xs [x] rfl (some ⟨w3.heap.size, 0, none⟩) 1 1 rfl HO3.out (one_rk _ _) noN HN3.out HN4.out HS3.out ?_; intro v4 w4 ho hb; have HB4 := hid (HB3a.out.trans (hb.mono hsz2)); have HW4 := hid (HB0.out.trans (HB4.out.mono (Nat.le_succ _))); obtain ⟨a4, e4, rfl, hobj, _⟩ := ownO_objs HE1.out ho (sy_app (HO.out.below' HW4.out).syms (fun y hy => (HX3.out y hy).below' HW4.out)); have HO4 := hid hobj; clear ho hb hobj c0 c1 c2 c3 c4 c5 c6 c7 c8 c9 c10 hbx))
              refine (lookup_any a4 (xs.length + 1) e4 (xs ++ [x]) (ba nm) w4 HO4.out (by omega) (sn_app HSN.out HX1.out)).mono ?_
              rintro e' w5 ⟨rfl, hb⟩
              have hsz4 : w.heap.size + 1 ≤ w4.heap.size := by have := HB4.out.size; simpa using this
              have HB5 := hid (HB4.out.trans (hb.mono hsz4))
              have HW5 := hid (HB0.out.trans (HB5.out.mono (Nat.le_succ _)))
              have HO5 := hid (HO.out.below' (HW5.out.alloc HW5.out.size (obB x)))
              have hsz5 : w.heap.size + 1 ≤ w5.heap.size := by have := HB5.out.size; simpa using this
              have HB5a := hid (HB5.out.alloc hsz5 (obB x))
              obtain ⟨⟨c0, c1, c2, c3, c4, c5⟩, ⟨c6, c7, c8, c9, c10⟩, hbx⟩ := box_cells (HR0.out.below HB5.out (Nat.lt_succ_self _))
              clear hb
              rw [show (ba nm).data.toList = nm from rfl, HAF.out]
              simp only [lkV]
              go_wp2_with (at_builtin; (refine wpList_appO rfl _ _ rfl w5.heap.size (.slice (some ⟨w5.heap.size, 0, none⟩) 1 1) [x] xs rfl a xs.length cap rfl (ownO_one (Row.new _ _ _) (Nat.le_refl _)) HO5.out.rows HCA.out HN4.out HN3.out (le_alloc (Nat.le_refl _)) ?_; intro v6 w6 ho hb; have HB6 := hid (HB5a.out.trans (hb.mono hsz5)); have HW6 := hid (HB0.out.trans (HB6.out.mono (Nat.le_succ _))); obtain ⟨a6, e6, rfl, hobj, _⟩ := ownO_objs HE2.out ho (sy_app (fun y hy => (HX3.out y hy).below' HW6.out) (HO.out.below' HW6.out).syms); have HO6 := hid hobj; clear ho hb hobj c0 c1 c2 c3 c4 c5 c6 c7 c8 c9 c10 hbx))
              refine (lookup_any a6 (xs.length + 1) e6 ([x] ++ xs) (ba nm) w6 HO6.out (by omega) (sn_app HX1.out HSN.out)).mono ?_
              rintro e' w7 ⟨rfl, hb⟩
              have hsz6 : w.heap.size + 1 ≤ w6.heap.size := by have := HB6.out.size; simpa using this
              have HB7 := hid (HB6.out.trans (hb.mono hsz6))
              have HW7 := hid (HB0.out.trans (HB7.out.mono (Nat.le_succ _)))
              have hsz7 : w.heap.size + 1 ≤ w7.heap.size := by have := HB7.out.size; simpa using this
              have HB7a := hid (HB7.out.alloc hsz7 (obB x))
              have HW7a := hid (HW7.out.alloc HW7.out.size (obB x))
              obtain ⟨⟨c0, c1, c2, c3, c4, c5⟩, ⟨c6, c7, c8, c9, c10⟩, hbx⟩ := box_cells (HR0.out.below HB7.out (Nat.lt_succ_self _))
              clear hb
              rw [show (ba nm).data.toList = nm from rfl, HAH.out]
              simp only [lkV]
              go_wp2_with fail
              refine (lookup_any (some ⟨w7.heap.size, 0, none⟩) 1 1 [x] (ba nm) (w7.alloc (obB x)) (objs_one (Row.new _ _ _) (HXY.out.below' HW7a.out)) (by omega) HX1.out).mono ?_
              rintro e' w8 ⟨rfl, hb⟩
              have HBQ := hid (HW7a.out.trans (hb.mono HW7a.out.size))
              clear hb
              rw [show (ba nm).data.toList = nm from rfl, HHO.out]
              simp only [lkV]
              go_wp2_with fail
              refine (works_any _).mono ?_
              rintro e' w9 ⟨rfl, hb⟩
              have HBZ := hid (HBQ.out.trans (hb.mono HBQ.out.size))
              clear hb
              go_wp2_with fail
              go_ret
              exact ⟨rfl, HBZ.out⟩
        | some d =>
          rw [hlk] at HAH0
          have hdi : d.1.1 < xs.length := by
            obtain ⟨h1, _⟩ := mem_defsL (look_mem hlk).1
            rwa [hol] at h1
          have HAF := hid (HBN.out d hlk)
          obtain ⟨⟨i, j⟩, sd⟩ := d
          dsimp only at hdi
          cases hho : hitO (toOS x) nm with
          | none =>
            rw [hho] at HAH0 HHO0
            have HAH := hid (show lookL (osL ([x] ++ xs)) nm = some ((i + 1, j), sd) from HAH0.out)
            have HHO := hid (show lookL (osL [x]) nm = none from HHO0.out)
            clear hlk hho HBM HBN HAH0 HHO0
            have HO2 := hid (HO.out.below' HBW2.out)
            have hsz2 : w.heap.size + 1 ≤ w2.heap.size := by have := HB2.out.size; simpa using this
            simp only [lkV]
            go_wp2_with (at_builtin; first
              | (refine wpList_appO rfl _ _ rfl w2.heap.size (.slice none 0 0) [] xs rfl a xs.length cap rfl (ownO_nil _ _) HO2.out.rows HCA.out HN0.out HN3.out (Nat.le_refl _) ?_; intro v3 w3 ho hb; obtain ⟨a3, e3, rfl, _⟩ := ownO_objs HE0.out ho (fun y hy => (HO2.out.below' hb).syms y hy); have HO3 := hid (show OwnO (w3.alloc (obB x)) w2.heap.size (.slice a3 xs.length e3) xs from ho.alloc (obB x)); have HB3 := hid (HB2.out.trans (hb.mono hsz2)); obtain ⟨⟨c0, c1, c2, c3, c4, c5⟩, ⟨c6, c7, c8, c9, c10⟩, hbx⟩ := box_cells (HR0.out.below HB3.out (Nat.lt_succ_self _)); have HS3 := hid (le_alloc (o := obB x) hb.size); have HB3a := hid (HB3.out.alloc (Nat.le_trans hsz2 hb.size) (obB x)); clear ho hb)
              | (refine wpList_appO rfl _ _ rfl w2.heap.size (.slice a3 xs.length e3) xs [x] rfl (some ⟨w3.heap.size, 0, none⟩) 1 1 rfl HO3.out (one_rk _ _) noN HN3.out HN4.out HS3.out ?_; intro v4 w4 ho hb; have HB4 := hid (HB3a.out.trans (hb.mono hsz2)); have HW4 := hid (HB0.out.trans (HB4.out.mono (Nat.le_succ _))); obtain ⟨a4, e4, rfl, hobj, _⟩ := ownO_objs HE1.out ho (sy_app (HO.out.below' HW4.out).syms (fun y hy => (HX3.out y hy).below' HW4.out)); have HO4 := hid hobj; clear ho hb hobj c0 c1 c2 c3 c4 c5 c6 c7 c8 c9 c10 hbx))
            refine (lookup_any a4 (xs.length + 1) e4 (xs ++ [x]) (ba nm) w4 HO4.out (by omega) (sn_app HSN.out HX1.out)).mono ?_
            rintro e' w5 ⟨rfl, hb⟩
            have hsz4 : w.heap.size + 1 ≤ w4.heap.size := by have := HB4.out.size; simpa using this
            have HB5 := hid (HB4.out.trans (hb.mono hsz4))
            have HW5 := hid (HB0.out.trans (HB5.out.mono (Nat.le_succ _)))
            have HO5 := hid (HO.out.below' (HW5.out.alloc HW5.out.size (obB x)))
            have hsz5 : w.heap.size + 1 ≤ w5.heap.size := by have := HB5.out.size; simpa using this
            have HB5a := hid (HB5.out.alloc hsz5 (obB x))
            obtain ⟨⟨c0, c1, c2, c3, c4, c5⟩, ⟨c6, c7, c8, c9, c10⟩, hbx⟩ := box_cells (HR0.out.below HB5.out (Nat.lt_succ_self _))
            clear hb
            rw [show (ba nm).data.toList = nm from rfl, HAF.out]
            simp only [lkV]
            go_wp2_with (at_builtin; (refine wpList_appO rfl _ _ rfl w5.heap.size (.slice (some ⟨w5.heap.size, 0, none⟩) 1 1) [x] xs rfl a xs.length cap rfl (ownO_one (Row.new _ _ _) (Nat.le_refl _)) HO5.out.rows HCA.out HN4.out HN3.out (le_alloc (Nat.le_refl _)) ?_; intro v6 w6 ho hb; have HB6 := hid (HB5a.out.trans (hb.mono hsz5)); have HW6 := hid (HB0.out.trans (HB6.out.mono (Nat.le_succ _))); obtain ⟨a6, e6, rfl, hobj, _⟩ := ownO_objs HE2.out ho (sy_app (fun y hy => (HX3.out y hy).below' HW6.out) (HO.out.below' HW6.out).syms); have HO6 := hid hobj; clear ho hb hobj c0 c1 c2 c3 c4 c5 c6 c7 c8 c9 c10 hbx))
            refine (lookup_any a6 (xs.length + 1) e6 ([x] ++ xs) (ba nm) w6 HO6.out (by omega) (sn_app HX1.out HSN.out)).mono ?_
            rintro e' w7 ⟨rfl, hb⟩
            have hsz6 : w.heap.size + 1 ≤ w6.heap.size := by have := HB6.out.size; simpa using this
            have HB7 := hid (HB6.out.trans (hb.mono hsz6))
            have HW7 := hid (HB0.out.trans (HB7.out.mono (Nat.le_succ _)))
            have hsz7 : w.heap.size + 1 ≤ w7.heap.size := by have := HB7.out.size; simpa using this
            have HB7a := hid (HB7.out.alloc hsz7 (obB x))
            have HW7a := hid (HW7.out.alloc HW7.out.size (obB x))
            obtain ⟨⟨c0, c1, c2, c3, c4, c5⟩, ⟨c6, c7, c8, c9, c10⟩, hbx⟩ := box_cells (HR0.out.below HB7.out (Nat.lt_succ_self _))
            clear hb
            rw [show (ba nm).data.toList = nm from rfl, HAH.out]
            simp only [lkV]
            go_wp2_with fail
            refine (lookup_any (some ⟨w7.heap.size, 0, none⟩) 1 1 [x] (ba nm) (w7.alloc (obB x)) (objs_one (Row.new _ _ _) (HXY.out.below' HW7a.out)) (by omega) HX1.out).mono ?_
            rintro e' w8 ⟨rfl, hb⟩
            have HBQ := hid (HW7a.out.trans (hb.mono HW7a.out.size))
            clear hb
            rw [show (ba nm).data.toList = nm from rfl, HHO.out]
            simp only [lkV]
            go_wp2_with fail
            refine (works_any _).mono ?_
            rintro e' w9 ⟨rfl, hb⟩
            have HBZ := hid (HBQ.out.trans (hb.mono HBQ.out.size))
            clear hb
            go_wp2_with fail
            go_ret
            exact ⟨rfl, HBZ.out⟩
          | some h =>
            rw [hho] at HAH0 HHO0
            have hz0 := hit_at hho
            obtain ⟨⟨i0, j0⟩, s0⟩ := h
            dsimp only at hz0
            subst hz0
            have HAH := hid (show lookL (osL ([x] ++ xs)) nm = some ((0, j0), s0) from HAH0.out)
            have HHO := hid (show lookL (osL [x]) nm = some ((0, j0), s0) from HHO0.out)
            clear hlk hho HBM HBN HAH0 HHO0
            have HO2 := hid (HO.out.below' HBW2.out)
            have hsz2 : w.heap.size + 1 ≤ w2.heap.size := by have := HB2.out.size; simpa using this
            simp only [lkV]
            go_wp2_with (at_builtin; first
              | (refine wpList_appO rfl _ _ rfl w2.heap.size (.slice none 0 0) [] xs rfl a xs.length cap rfl (ownO_nil _ _) HO2.out.rows HCA.out HN0.out HN3.out (Nat.le_refl _) ?_; intro v3 w3 ho hb; obtain ⟨a3, e3, rfl, _⟩ := ownO_objs HE0.out ho (fun y hy => (HO2.out.below' hb).syms y hy); have HO3 := hid (show OwnO (w3.alloc (obB x)) w2.heap.size (.slice a3 xs.length e3) xs from ho.alloc (obB x)); have HB3 := hid (HB2.out.trans (hb.mono hsz2)); obtain ⟨⟨c0, c1, c2, c3, c4, c5⟩, ⟨c6, c7, c8, c9, c10⟩, hbx⟩ := box_cells (HR0.out.below HB3.out (Nat.lt_succ_self _)); have HS3 := hid (le_alloc (o := obB x) hb.size); have HB3a := hid (HB3.out.alloc (Nat.le_trans hsz2 hb.size) (obB x)); clear ho hb)
              | (refine wpList_appO rfl _ _ rfl w2.heap.size (.slice a3 xs.length e3) xs [x] rfl (some ⟨w3.heap.size, 0, none⟩) 1 1 rfl HO3.out (one_rk _ _) noN HN3.out HN4.out HS3.out ?_; intro v4 w4 ho hb; have HB4 := hid (HB3a.out.trans (hb.mono hsz2)); have HW4 := hid (HB0.out.trans (HB4.out.mono (Nat.le_succ _))); obtain ⟨a4, e4, rfl, hobj, _⟩ := ownO_objs HE1.out ho (sy_app (HO.out.below' HW4.out).syms (fun y hy => (HX3.out y hy).below' HW4.out)); have HO4 := hid hobj; clear ho hb hobj c0 c1 c2 c3 c4 c5 c6 c7 c8 c9 c10 hbx))
            refine (lookup_any a4 (xs.length + 1) e4 (xs ++ [x]) (ba nm) w4 HO4.out (by omega) (sn_app HSN.out HX1.out)).mono ?_
            rintro e' w5 ⟨rfl, hb⟩
            have hsz4 : w.heap.size + 1 ≤ w4.heap.size := by have := HB4.out.size; simpa using this
            have HB5 := hid (HB4.out.trans (hb.mono hsz4))
            have HW5 := hid (HB0.out.trans (HB5.out.mono (Nat.le_succ _)))
            have HO5 := hid (HO.out.below' (HW5.out.alloc HW5.out.size (obB x)))
            have hsz5 : w.heap.size + 1 ≤ w5.heap.size := by have := HB5.out.size; simpa using this
            have HB5a := hid (HB5.out.alloc hsz5 (obB x))
            obtain ⟨⟨c0, c1, c2, c3, c4, c5⟩, ⟨c6, c7, c8, c9, c10⟩, hbx⟩ := box_cells (HR0.out.below HB5.out (Nat.lt_succ_self _))
            clear hb
            rw [show (ba nm).data.toList = nm from rfl, HAF.out]
            simp only [lkV]
            go_wp2_with (at_builtin; (refine wpList_appO rfl _ _ rfl w5.heap.size (.slice (some ⟨w5.heap.size, 0, none⟩) 1 1) [x] xs rfl a xs.length cap rfl (ownO_one (Row.new _ _ _) (Nat.le_refl _)) HO5.out.rows HCA.out HN4.out HN3.out (le_alloc (Nat.le_refl _)) ?_; intro v6 w6 ho hb; have HB6 := hid (HB5a.out.trans (hb.mono hsz5)); have HW6 := hid (HB0.out.trans (HB6.out.mono (Nat.le_succ _))); obtain ⟨a6, e6, rfl, hobj, _⟩ := ownO_objs HE2.out ho (sy_app (fun y hy => (HX3.out y hy).below' HW6.out) (HO.out.below' HW6.out).syms); have HO6 := hid hobj; clear ho hb hobj c0 c1 c2 c3 c4 c5 c6 c7 c8 c9 c10 hbx))
            refine (lookup_any a6 (xs.length + 1) e6 ([x] ++ xs) (ba nm) w6 HO6.out (by omega) (sn_app HX1.out HSN.out)).mono ?_
            rintro e' w7 ⟨rfl, hb⟩
            have hsz6 : w.heap.size + 1 ≤ w6.heap.size := by have := HB6.out.size; simpa using this
            have HB7 := hid (HB6.out.trans (hb.mono hsz6))
            have HW7 := hid (HB0.out.trans (HB7.out.mono (Nat.le_succ _)))
            have hsz7 : w.heap.size + 1 ≤ w7.heap.size := by have := HB7.out.size; simpa using this
            have HB7a := hid (HB7.out.alloc hsz7 (obB x))
            have HW7a := hid (HW7.out.alloc HW7.out.size (obB x))
            obtain ⟨⟨c0, c1, c2, c3, c4, c5⟩, ⟨c6, c7, c8, c9, c10⟩, hbx⟩ := box_cells (HR0.out.below HB7.out (Nat.lt_succ_self _))
            clear hb
            rw [show (ba nm).data.toList = nm from rfl, HAH.out]
            simp only [lkV]
            go_wp2_with fail
            refine (lookup_any (some ⟨w7.heap.size, 0, none⟩) 1 1 [x] (ba nm) (w7.alloc (obB x)) (objs_one (Row.new _ _ _) (HXY.out.below' HW7a.out)) (by omega) HX1.out).mono ?_
            rintro e' w8 ⟨rfl, hb⟩
            have HBQ := hid (HW7a.out.trans (hb.mono HW7a.out.size))
            clear hb
            rw [show (ba nm).data.toList = nm from rfl, HHO.out]
            simp only [lkV]
            go_wp2_with fail
            refine (works_any _).mono ?_
            rintro e' w9 ⟨rfl, hb⟩
            have HBZ := hid (HBQ.out.trans (hb.mono HBQ.out.size))
            clear hb
            go_wp2_with fail
            go_ret
            exact ⟨rfl, HBZ.out⟩
    · have HBQ := hid (HB0.out.trans (HBA.out.mono (Nat.le_succ _)))
      go_wp2_with fail
      refine (works_any _).mono ?_
      rintro e' w9 ⟨rfl, hb⟩
      have HBZ := hid (HBQ.out.trans (hb.mono HBQ.out.size))
      clear hb
      go_wp2_with fail
      go_ret
      exact ⟨rfl, HBZ.out⟩
  · clear hb
    go_wp2_with fail
    refine (works_any _).mono ?_
    rintro e' w1 ⟨rfl, hb⟩
    have HB := hid (HB0.out.trans (hb.mono HB0.out.size))
    clear hb
    go_wp2_with fail
    go_ret
    exact ⟨rfl, HB.out⟩
end Go.Proofs.Ytblefgkhikfmhaa
