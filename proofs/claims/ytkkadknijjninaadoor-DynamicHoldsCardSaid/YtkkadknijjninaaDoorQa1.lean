
/- dynamic: where a stretch of addresses lies; numbers; the first dynamic segment. -/
import Derived.Test.YtkkadknijjninaaDoorQa0
namespace Go.Proofs.YtkkadknijjninaaDoor
open Go.RowKit Go.Sort Go.Shelf
attribute [local go_sem] Oper.semAt_some

theorem dl (w : World) {o : Obj} : Below w.heap.size w (w.alloc o) := bal o
theorem find_hit {α : Type} {p : α → Bool} {l : List α} {k : Nat} (hk : k < l.length) (h : (l.take k).any p = false) (hp : p l[k] = true) : l.find? p = some l[k] := by
  have e : l = l.take k ++ (l[k] :: l.drop (k + 1)) := by rw [← List.drop_eq_getElem_cons hk, List.take_append_drop]
  have hn : (l.take k).find? p = none := by
    rw [List.find?_eq_none]
    intro x hx
    rw [List.any_eq_false] at h
    exact h x hx
  rw [show l.find? p = (l.take k ++ (l[k] :: l.drop (k + 1))).find? p by rw [← e], List.find?_append, hn, List.find?_cons_of_pos hp]
  rfl
theorem find_miss {α : Type} {p : α → Bool} {l : List α} (h : l.any p = false) : l.find? p = none := by
  rw [List.find?_eq_none]
  intro x hx
  rw [List.any_eq_false] at h
  exact h x hx
theorem any_more {α : Type} {p : α → Bool} {l : List α} {k : Nat} (hk : k < l.length) (h : (l.take k).any p = false) (hp : p l[k] = false) : (l.take (k + 1)).any p = false := by
  rw [List.take_succ_eq_append_getElem hk, List.any_append, h]
  simp [hp]
def lres (R : Option Int) : Ending := .returned (.tuple #[.int .u64 (R.getD 0), .bool R.isSome])
set_option maxRecDepth 100000 in
set_option maxHeartbeats 8000000 in
theorem laid_any (ab : Option Addr) (len cap : Nat) (la : Option Addr) (lc : Nat) (L : List SG) (addr size : Int) (w : World) (hl : len ≤ 1000000000) (hS : Sgs w la L.length L) (hn : L.length ≤ 1000000000) (hok : ∀ s ∈ L, SGok s) (ha0 : 0 ≤ addr) (ha1 : addr ≤ 18446744073709551615) (hs0 : 0 ≤ size) :
    Calls Tryd.prog 64 #[.agg #[.slice ab len cap, .slice la L.length lc], .int .u64 addr, .int .u64 size] w fun e w' => e = lres (laidO len L addr size) ∧ Below w.heap.size w w' := by
  obtain ⟨W, hW⟩ : ∃ W, W = w.alloc (.cells #[.slice ab len cap, .slice la L.length lc] 90) := ⟨_, rfl⟩
  have HW := hid hW
  have HLOW := hid (show Below w.heap.size w W by rw [hW]; exact bal _)
  have HROW := hid (show Row W w.heap.size 90 [.slice ab len cap, .slice la L.length lc] by rw [hW]; exact Row.new _ _ _)
  have HS := hid (hS.below' HLOW.out)
  have HOK := hid hok
  have HA := hid (show 0 ≤ addr ∧ addr ≤ 18446744073709551615 from ⟨ha0, ha1⟩)
  have HZ := hid hs0
  have HN := hid hn
  obtain ⟨R, hR⟩ : ∃ R, R = laidO len L addr size := ⟨_, rfl⟩
  rw [← hR]
  have HR := hid hR
  have w0 := HROW.out.cell' 0
  have w1 := HROW.out.cell' 1
  clear hW hS hok hR ha0 ha1 hs0
  have ewl := IntWalk.u64_in (len : Int) ⟨by omega, by omega⟩
  go_enter Tryd.func64, Tryd.ntmps64
  go_wp2_with fail
  rw [← HW.out]
  go_wp2_with fail
  clear w0 w1
  go_loopw [15] (fun i wr => ∃ k : Nat, k ≤ L.length ∧ i = .int .i64 k ∧ (L.take k).any (inL addr size) = false ∧ Below W.heap.size W wr) (fun i _ => L.length - (intOf i).toNat)
  case atStart => exact ⟨0, Nat.zero_le _, rfl, rfl, Below.refl _ _⟩
  case round =>
    obtain ⟨k, hk, rfl, hno, hb⟩ := hrel
    have HB := hid hb
    have HNO := hid hno
    clear hno
    by_cases hlt : k < L.length
    rotate_left
    · have d1 : decide ((k : Int) < (L.length : Int)) = false := by simp; omega
      have d1n : decide (k < L.length) = false := by simp; omega
      have HF := hid (show R = none by
        obtain rfl : k = L.length := by omega
        have := HNO.out
        rw [List.take_length] at this
        rw [HR.out]
        unfold laidO
        rw [find_miss this])
      go_wp2_with fail
      go_ret2
      exact ⟨by rw [HF.out]; rfl, HLOW.out.trans (HB.out.mono HLOW.out.size)⟩
    have d1 : decide ((k : Int) < (L.length : Int)) = true := by simp; omega
    have d1n : decide (k < L.length) = true := by simp; omega
    obtain ⟨b, off, rfl, x0, x1, x2, x3, x4, x5⟩ := (HS.out.below' hb).cells hlt
    have HRR := hid (HROW.out.below hb HROW.out.lt)
    have y0 := HRR.out.cell' 0
    have y1 := HRR.out.cell' 1
    have hbl := World.block_lt_of_cell? wr _ x0
    have hsl := World.block_lt_of_cell? wr _ y1
    have HXO := hid (HOK.out _ (List.getElem_mem hlt))
    have HANY := hid (fun (h : inL addr size L[k] = true) => show R = laidX len size addr L[k] by rw [HR.out]; unfold laidO; rw [find_hit hlt HNO.out h])
    have HNXT := hid (fun (h : inL addr size L[k] = false) => any_more hlt HNO.out h)
    generalize L[k] = x at *
    have HBA := hid (fun o => HB.out.alloc HB.out.size o)
    have HFB := hid (fun o => HLOW.out.trans ((HBA.out o).mono HLOW.out.size))
    have xa0 := HXO.out.a0
    have ha := HA.out
    clear hb
    by_cases h1 : x.addr ≤ addr
    rotate_left
    · have e1 : decide (x.addr ≤ addr) = false := by simp; omega
      have HF := hid (show inL addr size x = false by unfold inL; rw [e1]; rfl)
      clear h1
      go_wp2_with fail
      go_roundw
      case rel => exact ⟨k + 1, by omega, by go_num, HNXT.out HF.out, HBA.out _⟩
      case measure => simp [intOf]; omega
    have e1 : decide (x.addr ≤ addr) = true := by simp; omega
    have ew := IntWalk.u64_in (addr - x.addr) ⟨by omega, by omega⟩
    have HI := hid (fun wx => inside_any (addr - x.addr) size x.fsz wx HZ.out HXO.out.z1)
    have HIN := hid (show ∀ b2, insB (addr - x.addr) size x.fsz = b2 → inL addr size x = b2 from by
      intro b2 h2
      unfold inL
      rw [e1, h2]
      rfl)
    clear h1
    go_wp2_with fail
    refine (HI.out _).mono ?_
    rintro e' w6 ⟨rfl, rfl⟩
    cases h2 : insB (addr - x.addr) size x.fsz
    · have H2 := hid h2
      clear h2
      go_wp2_with fail
      go_roundw
      case rel => exact ⟨k + 1, by omega, by go_num, HNXT.out (HIN.out _ H2.out), HBA.out _⟩
      case measure => simp [intOf]; omega
    have HT := hid (HANY.out (HIN.out _ h2))
    clear h2
    go_wp2_with fail
    refine (add_any x.off (addr - x.addr) _).mono ?_
    rintro e' w7 ⟨rfl, rfl⟩
    cases h3 : addB x.off (addr - x.addr)
    · have HF := hid (show R = none by rw [HT.out]; unfold laidX; rw [h3]; simp)
      clear h3
      go_wp2_with fail
      go_ret2
      exact ⟨by rw [HF.out]; rfl, HFB.out _⟩
    have H3 := hid h3
    have HI2 := hid (fun wx => inside_any (addV x.off (addr - x.addr)) size (len : Int) wx HZ.out (by omega))
    generalize hv : addV x.off (addr - x.addr) = v at *
    have HV := hid hv
    clear h3 hv
    go_wp2_with fail
    refine (HI2.out _).mono ?_
    rintro e' w8 ⟨rfl, rfl⟩
    cases h4 : insB v size (len : Int)
    · have HF := hid (show R = none by rw [HT.out]; unfold laidX; rw [HV.out, h4]; simp)
      clear h4
      go_wp2_with fail
      go_ret2
      exact ⟨by rw [HF.out]; rfl, HFB.out _⟩
    have HF := hid (show R = some v by rw [HT.out]; unfold laidX; rw [HV.out, h4, H3.out]; simp)
    clear h4
    go_wp2_with fail
    go_ret2
    exact ⟨by rw [HF.out]; rfl, HFB.out _⟩
theorem number_any (a : Option Addr) (len cap : Nat) (p n : Int) (l : BL) (w : World) (hs : Sizes w) (hl : len ≤ 9223372036854775807) (hB : Byt w a len l) (hp : 0 ≤ p) :
    Calls Tryd.prog 63 #[.slice a len cap, .int .u64 p, .int .i64 n] w fun e w' => e = .returned (.int .u64 (wgetV l p n)) ∧ w = w' := by
  have HG := hid (get_any a len cap p n l w hs hl hB hp)
  clear hs hB hl
  go_enter Tryd.func63, Tryd.ntmps63
  go_wp2_with fail
  refine HG.out.mono ?_
  rintro e' w1 ⟨rfl, rfl⟩
  go_wp2_with fail
  go_ret
  exact ⟨rfl, rfl⟩
end Go.Proofs.YtkkadknijjninaaDoor
