
/- hostellaw07.same; a pool's bytes. -/
import Derived.Test.YtllkeeeajlgkpaaDoorJK
import Derived.BigQuiet
namespace Go.Proofs.YtllkeeeajlgkpaaDoor
open Go.RowKit Go.Sort

set_option maxHeartbeats 1000000 in
theorem same_any (a b : Option Addr) (n ca cb : Nat) (l : List Int) (w : World) (hA : Nums w .u8 a n l) (hB : Nums w .u8 b n l) (hl : n ≤ 1000000) :
    Calls Tryd.prog 23 #[.slice a n ca, .slice b n cb] w fun e w' => e = .returned (.bool true) ∧ ∃ k, w' = w.drewN k := by
  obtain rfl := hA.hlen
  have HA := hid hA
  have HB := hid hB
  clear hA hB
  go_enter Tryd.func23, Tryd.ntmps23
  go_wp2_with fail
  go_loopw [5] (fun i wr => ∃ k q : Nat, k ≤ l.length ∧ i = .int .i64 k ∧ wr = w.drewN q) (fun i _ => l.length - (intOf i).toNat)
  case atStart => exact ⟨0, 0, Nat.zero_le _, rfl, rfl⟩
  case round =>
    obtain ⟨k, q, hk, rfl, rfl⟩ := hrel
    by_cases hlt : k < l.length
    · have d1 : decide ((k : Int) < (l.length : Int)) = true := by simp; omega
      have d1n : decide (k < l.length) = true := by simp; omega
      obtain ⟨ba, oa, rfl, hca⟩ := HA.out.cell k hlt
      obtain ⟨bb, ob, rfl, hcb⟩ := HB.out.cell k hlt
      have hla := World.block_lt_of_cell? _ _ hca
      have hlb := World.block_lt_of_cell? _ _ hcb
      generalize l[k] = y at *
      have ez : (0 : Int) ≤ (k : Int) := by omega
      have eb : (k : Int) < (l.length : Int) := by omega
      go_wp2_with fail
      go_quiet (fail)
      go_wp2_with fail
      go_roundw
      case rel => exact ⟨k + 1, q + nq, by omega, by go_num, rfl⟩
      case measure => simp [intOf]; omega
    · have d1 : decide ((k : Int) < (l.length : Int)) = false := by simp; omega
      have d1n : decide (k < l.length) = false := by simp; omega
      go_wp2_with fail
      go_ret
      exact ⟨rfl, q, rfl⟩

/-- A list of the call's own whose block lies behind the pool's stands while the pool turns. -/
theorem own_ex {w w' : World} {a b base E size n : Nat} {v : Value} {xs : List Value} (h : w.ownsRow base E size v n xs) (hx : Ex w w' a b) (ha : a < base) (hb : b < base) : w'.ownsRow base E size v n xs :=
  hx.own h (fun e => by have := (h.lt _ e).1; omega) (fun e => by have := (h.lt _ e).1; omega)
theorem within_all : withinB 0 4096 = true := by decide
theorem cntF_is {fs : List FR} {k : Nat} (hk : k < fs.length) : cntF fs (k : Int) = fs[k].cnt := by
  unfold cntF
  rw [if_pos ⟨by omega, by omega⟩, Int.toNat_natCast, getF_at _ _ _ hk]
theorem load_all {fs : List FR} {k : Nat} (hok : FsOk fs) (hk : k < fs.length) (hc : fs[k].cnt ≠ 0) : loadE fs k 0 4096 = 0 ∧ loadL fs k 0 4096 = fs[k].bs := by
  have ht : takE fs (k : Int) = 0 := by
    unfold takE
    rw [cntF_is hk, if_neg hc]
  unfold loadE loadL
  rw [ht, within_all, Int.toNat_natCast, getF_at _ _ _ hk]
  refine ⟨rfl, ?_⟩
  have := hok _ (List.getElem_mem hk)
  simp only [if_true]
  rw [show (0 : Int).toNat = 0 from rfl, show (4096 : Int).toNat = 4096 from rfl, List.drop_zero, List.take_of_length_le (by omega)]
theorem load_not {fs : List FR} {f : Int} (h : cntF fs f = 0) (o n : Int) : loadE fs f o n = 1 ∧ loadL fs f o n = [] := by
  have ht : takE fs f = 1 := by unfold takE; rw [if_pos h]
  unfold loadE loadL
  rw [ht]
  exact ⟨rfl, rfl⟩
/-- One byte stored. -/
theorem store_one {fs : List FR} {k o : Nat} (hk : k < fs.length) (hc : fs[k].cnt ≠ 0) (ho : o < 4096) (x : Int) : loadE fs k o 1 = 0 ∧ storeS fs k o [x] = fs.set k ⟨splice fs[k].bs o [x], fs[k].cnt⟩ := by
  have ht : takE fs (k : Int) = 0 := by
    unfold takE
    rw [cntF_is hk, if_neg hc]
  have hw : withinB (o : Int) 1 = true := by unfold withinB; simp; omega
  have hl : loadE fs k o 1 = 0 := by unfold loadE; rw [ht, hw]; rfl
  refine ⟨hl, ?_⟩
  unfold storeS
  have e : (([x] : List Int).length : Int) = 1 := rfl
  rw [e, hl, if_pos rfl, Int.toNat_natCast, Int.toNat_natCast, getF_at _ _ _ hk]
theorem load_one {fs : List FR} {k o : Nat} (hk : k < fs.length) (hc : fs[k].cnt ≠ 0) (ho : o < 4096) (L : List Int) (x : Int) (hL : L.length = 4096) (hb : fs[k].bs = splice L o [x]) : loadE fs k o 1 = 0 ∧ loadL fs k o 1 = [x] := by
  have ht : takE fs (k : Int) = 0 := by
    unfold takE
    rw [cntF_is hk, if_neg hc]
  have hw : withinB (o : Int) 1 = true := by unfold withinB; simp; omega
  refine ⟨by unfold loadE; rw [ht, hw]; rfl, ?_⟩
  unfold loadL
  rw [ht, hw, Int.toNat_natCast, Int.toNat_natCast, getF_at _ _ _ hk, hb]
  simp only [if_true]
  have e1 : (1 : Int).toNat = 1 := rfl
  rw [e1]
  have hs : (splice L o [x]).length = 4096 := by rw [length_splice _ _ _ (by simp; omega)]; exact hL
  have hg : (splice L o [x])[o]? = some x := by
    rw [splice_get _ _ _ _ (by simp; omega), if_neg (by omega), if_pos (by simp)]
    simp
  rw [List.drop_eq_getElem_cons (by omega)]
  rw [List.getElem?_eq_getElem (by omega)] at hg
  simp only [Option.some.injEq] at hg
  rw [hg]
  rfl
end Go.Proofs.YtllkeeeajlgkpaaDoor
