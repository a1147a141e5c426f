
/- vfs: the parts of an entry's path. -/
import Derived.Test.YtfaohejdaabalaaGreatDoorKG
import Derived.Test.YtfaohejdaabalaaGreatDoorF5
namespace Go.Proofs.YtfaohejdaabalaaGreatDoor
open Go.RowKit Go.Sort

def dotB (ds : List BL) : Bool := ds.any fun p => decide (p = [46, 46])
def entB (x : EN) : Prop := rightK x = true ∧ bits .andNot .u16 x.mode 2559 = 0 ∧ tailB x.path = false ∧ chkE x.path = 0 ∧ rootF x.path = true ∧ partsF x.path ≠ [] ∧ dotB (partsF x.path) = false
instance (x : EN) : Decidable (entB x) := by unfold entB; infer_instance
def entP (x : EN) : Option (List BL) := if entB x then some (partsF x.path) else none
theorem entP_no {x : EN} (h : ¬ entB x) : entP x = none := if_neg h
theorem entP_yes {x : EN} (h : entB x) : entP x = some (partsF x.path) := if_pos h
def EntPost (w : World) (x : EN) (e : Ending) (w' : World) : Prop := Below w.heap.size w w' ∧ match entP x with
  | some ds => ∃ v, e = .returned (.tuple #[v, .bool true]) ∧ OwnT w' w.heap.size v ds
  | none => e = .returned (.tuple #[.slice none 0 0, .bool false])
theorem entPost_none {w w' : World} {x : EN} (h : entP x = none) (hb : Below w.heap.size w w') : EntPost w x (.returned (.tuple #[.slice none 0 0, .bool false])) w' := by
  unfold EntPost
  rw [h]
  exact ⟨hb, rfl⟩
theorem entPost_some {w w' : World} {x : EN} {ds : List BL} {v : Value} (h : entP x = some ds) (hb : Below w.heap.size w w') (ho : OwnT w' w.heap.size v ds) : EntPost w x (.returned (.tuple #[v, .bool true])) w' := by
  unfold EntPost
  rw [h]
  exact ⟨hb, v, rfl, ho⟩

set_option maxRecDepth 100000 in
set_option maxHeartbeats 4000000 in
theorem entryParts_any (x : EN) (w : World) (hx : EnOk w x) :
    Calls Tryz.prog 66 #[.agg x.cs.toArray] w (EntPost w x) := by
  have HB0 := hid (show Below w.heap.size w (w.alloc (.cells x.cs.toArray 43)) from bal _)
  have HR0 := hid (Row.new w 43 x.cs)
  have HX := hid (hx.below HB0.out)
  have HK := hid (rightKind_any x (w.alloc (.cells x.cs.toArray 43)) HX.out)
  have HPL := hid hx.path
  clear hx
  unfold EN.cs at HB0 HR0 HX HK ⊢
  go_enter Tryz.func66, Tryz.ntmps66
  go_wp2_with fail
  refine (HK.out).mono ?_
  rintro e' w1 ⟨rfl, hb⟩
  have HR1 := hid (HR0.out.below hb HR0.out.lt)
  have HB1 := hid (bthen HB0.out hb)
  have hr1 := HR1.out.seven
  obtain ⟨c0, c1, c2, c3, c4, c5, c6⟩ := hr1
  have hlr := HR1.out.lt
  clear hb HK
  cases hk : rightK x
  · have HN := hid (entP_no (fun h : entB x => by rw [h.1] at hk; cases hk))
    have HB9 := hid HB1.out
    clear hk
    go_wp2_with fail
    go_ret2
    exact entPost_none HN.out HB9.out
  · by_cases hm : bits .andNot .u16 x.mode 2559 = 0
    · have hm1 : (bits .andNot .u16 x.mode 2559 == 0) = true := by simpa using hm
      have hm2 : (bits .andNot .u16 x.mode 2559 != 0) = false := by simpa using hm
      have HM := hid hm
      have HKK := hid hk
      clear hm hk
      go_wp2_with fail
      refine (tail_any (ba x.path) w1 (by rw [ba_size]; exact HPL.out)).mono ?_
      rintro e' w2 ⟨rfl, rfl⟩
      rw [show (ba x.path).data.toList = x.path from rfl]
      cases ht : tailB x.path
      · have HT := hid ht
        clear ht
        go_wp2_with fail
        refine (parts_any (ba x.path) w1 (by rw [ba_size]; exact HPL.out)).mono ?_
        rintro e' w2 ⟨v, rfl, ho, hb⟩
        rw [show (ba x.path).data.toList = x.path from rfl] at ho ⊢
        have HB2 := hid (bthen HB1.out hb)
        have HO := hid (own_from ho HB1.out.size)
        obtain ⟨av, cv, rfl, hcel, _⟩ := own_cel ho
        have HC := hid hcel
        clear ho hb hcel
        by_cases hc : chkE x.path = 0
        · rw [hc]
          cases hr : rootF x.path
          · have HN := hid (entP_no (fun h : entB x => by rw [h.2.2.2.2.1] at hr; cases hr))
            have HB9 := hid HB2.out
            clear hr hc
            go_wp2_with fail
            go_ret2
            exact entPost_none HN.out HB9.out
          · have hlz := len_zero (partsF x.path)
            by_cases hn : partsF x.path = []
            · rw [decide_eq_true hn] at hlz
              have HN := hid (entP_no (fun h : entB x => h.2.2.2.2.2.1 hn))
              have HB9 := hid HB2.out
              clear hn hr hc
              go_wp2_with fail
              go_ret2
              exact entPost_none HN.out HB9.out
            · rw [decide_eq_false hn] at hlz
              have HYES := hid (fun (h : dotB (partsF x.path) = false) => entP_yes (x := x) ⟨HKK.out, HM.out, HT.out, hc, hr, hn, h⟩)
              have HNO := hid (fun (h : dotB (partsF x.path) = true) => entP_no (fun h' : entB x => by rw [h'.2.2.2.2.2.2] at h; cases h))
              have hdl := parts_count x.path
              clear hn hr hc
              generalize partsF x.path = ds at *
              go_wp2_with fail
              go_loopw [43] (fun i wr => ∃ k : Nat, k ≤ ds.length ∧ i = .int .i64 k ∧ dotB (ds.take k) = false ∧ w2 = wr) (fun i _ => ds.length - (intOf i).toNat)
              case atStart => exact ⟨0, Nat.zero_le _, rfl, rfl, rfl⟩
              case round =>
                obtain ⟨k, hkk, rfl, hdb, rfl⟩ := hrel
                have HDB := hid hdb
                clear hdb
                by_cases hlt : k < ds.length
                · have d1 : decide ((k : Int) < (ds.length : Int)) = true := by simp; omega
                  have d1n : decide (k < ds.length) = true := by simp; omega
                  obtain ⟨b, o, rfl, hcell⟩ := HC.out.some_of (by simp [strs]; omega)
                  have hx' := strs_at hcell hlt
                  have hlb := World.block_lt_of_cell? _ _ hx'
                  dsimp only at hlb
                  have hq := ba_beq ds[k] [46, 46]
                  have HTK := hid (show dotB (ds.take (k + 1)) = (dotB (ds.take k) || decide (ds[k] = [46, 46])) by unfold dotB; rw [List.take_succ_eq_append_getElem hlt, List.any_append]; simp)
                  have HALL := hid (fun (h : ds[k] = [46, 46]) => show dotB ds = true from List.any_eq_true.2 ⟨ds[k], List.getElem_mem hlt, by simp [h]⟩)
                  generalize ds[k] = p at *
                  clear hcell
                  by_cases hp : p = [46, 46]
                  · have HN := hid (HNO.out (HALL.out hp))
                    have HB9 := hid HB2.out
                    rw [decide_eq_true hp] at hq
                    clear hp
                    go_wp2_with fail
                    go_ret2
                    exact entPost_none HN.out HB9.out
                  · rw [decide_eq_false hp] at hq HTK
                    clear hp
                    go_wp2_with fail
                    go_roundw
                    case rel => exact ⟨k + 1, by omega, by go_num, by rw [HTK.out, HDB.out]; rfl, by first | rfl | trivial⟩
                    case measure => simp [intOf]; omega
                · have d1 : decide ((k : Int) < (ds.length : Int)) = false := by simp; omega
                  have d1n : decide (k < ds.length) = false := by simp; omega
                  obtain rfl : k = ds.length := by omega
                  go_wp2_with fail
                  go_ret2
                  exact entPost_some (HYES.out (by have := HDB.out; rwa [List.take_length] at this)) HB2.out HO.out
        · have hc' : (chkE x.path == 0) = false := by simpa using hc
          have hc2 : (chkE x.path != 0) = true := by simpa using hc
          have HN := hid (entP_no (fun h : entB x => hc h.2.2.2.1))
          have HB9 := hid HB2.out
          clear hc
          go_wp2_with fail
          go_ret2
          exact entPost_none HN.out HB9.out
      · have HN := hid (entP_no (fun h : entB x => by rw [h.2.2.1] at ht; cases ht))
        have HB9 := hid HB1.out
        clear ht
        go_wp2_with fail
        go_ret2
        exact entPost_none HN.out HB9.out
    · have hm1 : (bits .andNot .u16 x.mode 2559 == 0) = false := by simpa using hm
      have hm2 : (bits .andNot .u16 x.mode 2559 != 0) = true := by simpa using hm
      have HN := hid (entP_no (fun h : entB x => hm h.2.1))
      have HB9 := hid HB1.out
      clear hm hk
      go_wp2_with fail
      go_ret2
      exact entPost_none HN.out HB9.out
end Go.Proofs.YtfaohejdaabalaaGreatDoor
