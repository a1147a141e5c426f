/- Contracts of package envs: Unset. -/
import Derived.Test.YtoikoljadgnebaaZ3
import Derived.Test.YtoikoljadgnebaaY
namespace Go.Proofs.Ytoikoljadgnebaa
open Go.RowKit Go.Sort

theorem filt_take {f : List BL → List BL} {ds : List BL} {k : Nat} (hk : k < ds.length) {r : List BL} (h : f (ds.take k ++ [ds[k]]) = r) : f (ds.take (k + 1)) = r := by
  rw [List.take_succ_eq_append_getElem hk]; exact h
theorem unset_keep {ds : List BL} {n : BL} {k : Nat} (hk : k < ds.length) (h : named ds[k] n = false) : unsetL (ds.take (k + 1)) n = unsetL (ds.take k) n ++ [ds[k]] :=
  filt_take (f := fun l => unsetL l n) hk (by rw [unsetL_snoc, h]; rfl)
theorem unset_drop {ds : List BL} {n : BL} {k : Nat} (hk : k < ds.length) (h : named ds[k] n = true) : unsetL (ds.take (k + 1)) n = unsetL (ds.take k) n :=
  filt_take (f := fun l => unsetL l n) hk (by rw [unsetL_snoc, h]; rfl)
theorem le_take {f : List BL → List BL} (hf : ∀ l, (f l).length ≤ l.length) {ds : List BL} (k : Nat) (h : ds.length ≤ 4000000000000) : (f (ds.take k)).length ≤ 8000000000000 := by
  have h1 := hf (ds.take k)
  have h2 : (ds.take k).length ≤ ds.length := List.length_take_le' _ _
  omega

def OwnPost (w : World) (ds : List BL) (e : Ending) (w' : World) : Prop := ∃ v, e = .returned v ∧ OwnS w' w.heap.size v ds ∧ Below w.heap.size w w'

set_option maxHeartbeats 1000000 in
theorem unsetE_any (a : Option Addr) (len cap : Nat) (ds : List BL) (n : ByteArray) (w : World) (hB : Cel w a len (strs ds)) (hl : len ≤ 4000000000000) (hs : ∀ p ∈ ds, p.length ≤ 140737488351232) :
    Calls Try.prog 21 #[.slice a len cap, .string n] w (OwnPost w (unsetL ds n.data.toList)) := by
  obtain ⟨rfl, hat⟩ := cel_str hB
  have HAT := hid hat
  have HS := hid hs
  have HLN := hid (fun k => le_take (f := fun l => unsetL l n.data.toList) (fun l => unsetL_le l _) (ds := ds) k hl)
  clear hB hat hs
  go_enter Try.func21, Try.ntmps21
  go_wp2_with fail
  go_loopw [5, 10] (fun v i wr => ∃ k : Nat, k ≤ ds.length ∧ i = .int .i64 k ∧ OwnS wr w.heap.size v (unsetL (ds.take k) n.data.toList) ∧ Below w.heap.size w wr) (fun _ i _ => ds.length - (intOf i).toNat)
  case atStart => exact ⟨0, Nat.zero_le _, rfl, ownS_nil _ _, Below.refl _ _⟩
  case round =>
    obtain ⟨k, hk, rfl, ho, hb⟩ := hrel
    have HO := hid ho
    have HB := hid hb
    clear ho hb
    by_cases hlt : k < ds.length
    · have d1 : decide ((k : Int) < (ds.length : Int)) = true := by simp; omega
      obtain ⟨b, off, rfl, hc⟩ := HAT.out (by omega)
      have hx := keepC HB.out (hc k hlt)
      have HX := hid hx
      have hz : (ba ds[k]).size ≤ 140737488351232 := by rw [ba_size]; exact HS.out _ (List.getElem_mem hlt)
      have HZ := hid hz
      clear hc hz
      go_wp2_with fail
      refine (names_any _ _ _ HZ.out).mono ?_
      rintro e' w1 ⟨rfl, m1, hw1⟩
      rw [ba_list]
      have hb1 : Below wr.heap.size wr w1 := by rw [hw1]; exact drewN_below _ _
      have HO1 := hid (own_below HO.out hb1)
      have HB1 := hid (bthen HB.out hb1)
      clear hw1 hx hb1
      cases hb : named ds[k] n.data.toList
      · have HN := hid (unset_keep hlt hb)
        obtain ⟨a9, c9, rfl, _⟩ := own_cel HO1.out
        clear hb
        go_wp2_with (at_builtin; go_must (refine wpList_appS rfl _ _ rfl w.heap.size (.slice a9 (unsetL (ds.take k) n.data.toList).length c9) (unsetL (ds.take k) n.data.toList) (ba ds[k]) rfl rfl HO1.out (HLN.out k) HB1.out.size ?_; intro v' w2 hown hgrow hb2 _ _; have HO2 := hid hown; have HB2 := hid (HB1.out.trans hb2); obtain ⟨a8, c8, rfl, _⟩ := own_cel hown; clear hown hgrow hb2))
        go_roundw
        case rel => exact ⟨k + 1, by omega, by go_num, ownS_of HO2.out HN.out.symm, HB2.out⟩
        case measure => simp [intOf]; omega
      · have HN := hid (unset_drop hlt hb)
        clear hb
        go_wp2_with fail
        go_roundw
        case rel => exact ⟨k + 1, by omega, by go_num, by rw [HN.out]; exact HO1.out, HB1.out⟩
        case measure => simp [intOf]; omega
    · have d1 : decide ((k : Int) < (ds.length : Int)) = false := by simp; omega
      obtain rfl : k = ds.length := by omega
      go_wp2_with fail
      go_ret
      exact ⟨_, rfl, by have := HO.out; rwa [List.take_length] at this, HB.out⟩
end Go.Proofs.Ytoikoljadgnebaa
