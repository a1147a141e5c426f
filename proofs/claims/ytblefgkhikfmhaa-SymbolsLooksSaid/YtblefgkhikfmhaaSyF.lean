/- works. -/
import Derived.Test.YtblefgkhikfmhaaSyE
namespace Go.Proofs.Ytblefgkhikfmhaa
open Go.RowKit Go.Sort Go.Shelf
attribute [local go_sem] Oper.semAt_some

theorem Row.rk {w : World} {g : Nat} {E : TypeId} {k : Nat} {rows : List (List Value)} (h : Row w g E rows.flatten) (hk : ∀ r ∈ rows, r.length = k) : Rk w k (some ⟨g, 0, none⟩) rows.length rows := by
  refine ⟨rfl, fun i hi => ⟨hk _ (List.getElem_mem hi), g, 0, rfl, fun j hj => ?_⟩⟩
  have := flat_at hk hi hj
  rw [h.cell', Nat.zero_add, this]

def wA1 : SY := ⟨[102], 1, 0, 1, true⟩
def wA2 : SY := ⟨[103], 0, 0, 1, false⟩
def wB1 : SY := ⟨[103], 6, 0, 2, true⟩
def wB2 : SY := ⟨[120], 0, 0, 1, false⟩
def osW : List OS := [⟨100, [wA1, wA2]⟩, ⟨200, [wB1, wB2]⟩]
theorem lookW : lookL osW [103] = some ((1, 0), wB1) := by decide
theorem ofW1 : ofL osW 0 1 = (206, 0) := by decide
theorem ofW2 : ofL osW 1 1 = (0, 21) := by decide
theorem allW : allL osW = [[102], [103]] := by decide
theorem defsW : (defsL osW).length = 2 := by decide

def obW (base : Int) (b : Nat) (l : List SY) : OB := { ino := 0, base := base, typ := 0, entry := 0, phoff := 0, ga := none, gn := 0, gc := 0, na := none, nn := 0, nc := 0, nd := [], soname := [], run := [], sa := some ⟨b, 0, none⟩, sn := 2, sc := 2, sy := l, ra := none, rn := 0, rc := 0, rl := [] }
def xsW (M : Nat) : List OB := [obW 100 M [wA1, wA2], obW 200 (M + 1 + 1) [wB1, wB2]]
theorem osL_W (M : Nat) : osL (xsW M) = osW := rfl
abbrev syCs (l : List SY) : Obj := .cells ((l.map syC).flatten).toArray 48
abbrev boxW (x : OB) : Obj := .cells (obC x).toArray 44
abbrev wW (w : World) : World := ((((w.alloc (syCs [wA1, wA2])).alloc (boxW (obW 100 w.heap.size [wA1, wA2]))).alloc (syCs [wB1, wB2])).alloc (boxW (obW 200 (w.heap.size + 1 + 1) [wB1, wB2]))).alloc (.cells (((xsW w.heap.size).map obC).flatten).toArray 44)
theorem size_wW (w : World) : (wW w).heap.size = w.heap.size + 1 + 1 + 1 + 1 + 1 := by simp [wW]
theorem below_wW (w : World) : Below w.heap.size w (wW w) := ((((bal _).alloc (by simp) _).alloc (by simp; omega) _).alloc (by simp; omega) _).alloc (by simp; omega) _
theorem objs_wW (w : World) : Objs (wW w) (some ⟨w.heap.size + 1 + 1 + 1 + 1, 0, none⟩) 2 (xsW w.heap.size) := by
  refine ⟨?_, ?_⟩
  · have h := Row.new ((((w.alloc (syCs [wA1, wA2])).alloc (boxW (obW 100 w.heap.size [wA1, wA2]))).alloc (syCs [wB1, wB2])).alloc (boxW (obW 200 (w.heap.size + 1 + 1) [wB1, wB2]))) 44 (((xsW w.heap.size).map obC).flatten)
    simp only [World.size_alloc] at h
    exact h.rk (k := 11) (by intro r hr; obtain ⟨x, _, rfl⟩ := List.mem_map.1 hr; rfl)
  · intro x hx
    rcases List.mem_cons.1 hx with rfl | hx
    · have h := ((((Row.new w 48 (([wA1, wA2].map syC).flatten)).alloc (boxW (obW 100 w.heap.size [wA1, wA2]))).alloc (syCs [wB1, wB2])).alloc (boxW (obW 200 (w.heap.size + 1 + 1) [wB1, wB2]))).alloc (.cells (((xsW w.heap.size).map obC).flatten).toArray 44)
      exact h.rk (k := 5) (by intro r hr; obtain ⟨x, _, rfl⟩ := List.mem_map.1 hr; rfl)
    · rw [List.mem_singleton.1 hx]
      have h := Row.new ((w.alloc (syCs [wA1, wA2])).alloc (boxW (obW 100 w.heap.size [wA1, wA2]))) 48 (([wB1, wB2].map syC).flatten)
      simp only [World.size_alloc] at h
      have h2 := (h.alloc (boxW (obW 200 (w.heap.size + 1 + 1) [wB1, wB2]))).alloc (.cells (((xsW w.heap.size).map obC).flatten).toArray 44)
      exact h2.rk (k := 5) (by intro r hr; obtain ⟨x, _, rfl⟩ := List.mem_map.1 hr; rfl)
theorem sn_W {M : Nat} : ∀ x ∈ xsW M, x.sn ≤ 4000000000000 := by
  intro x hx
  rcases List.mem_cons.1 hx with rfl | hx
  · show (2 : Nat) ≤ _; omega
  · rw [List.mem_singleton.1 hx]; show (2 : Nat) ≤ _; omega
theorem nm_W {M : Nat} : ∀ x ∈ xsW M, ∀ s ∈ x.sy, s.name.length ≤ 140737488351232 := by
  have h : ∀ s ∈ [wA1, wA2, wB1, wB2], s.name.length ≤ 140737488351232 := by decide
  intro x hx s hs
  rcases List.mem_cons.1 hx with rfl | hx
  · exact h s (by have : s = wA1 ∨ s = wA2 := by simpa [obW] using hs
                  rcases this with rfl | rfl <;> simp)
  · rw [List.mem_singleton.1 hx] at hs
    exact h s (by have : s = wB1 ∨ s = wB2 := by simpa [obW] using hs
                  rcases this with rfl | rfl <;> simp)

set_option maxHeartbeats 4000000 in
theorem works_any (w : World) : Calls Try.prog 9 #[] w fun e w' => e = .returned (.bool true) ∧ Below w.heap.size w w' := by
  have HO := hid (objs_wW w)
  have HB := hid (below_wW w)
  go_enter Try.func9, Try.ntmps9
  go_wp2_with fail
  refine (lookup_any _ 2 2 (xsW w.heap.size) _ (wW w) HO.out (by decide) sn_W).mono ?_
  rintro e' w1 ⟨rfl, hb⟩
  have HB1 := hid (HB.out.trans (hb.mono HB.out.size))
  have HO1 := hid (HO.out.below' hb)
  clear hb HO HB
  rw [osL_W, show (ByteArray.mk #[103]).data.toList = [103] from rfl, lookW]
  simp only [lkV]
  go_wp2_with fail
  refine (of_any _ 2 2 (xsW w.heap.size) 0 1 _ HO1.out (by decide) sn_W).mono ?_
  rintro e' w2 ⟨rfl, hb⟩
  have HB2 := hid (HB1.out.trans (hb.mono HB1.out.size))
  have HO2 := hid (HO1.out.below' hb)
  clear hb HO1 HB1
  rw [osL_W, ofW1]
  simp only [ofV]
  go_wp2_with fail
  refine (of_any _ 2 2 (xsW w.heap.size) 1 1 _ HO2.out (by decide) sn_W).mono ?_
  rintro e' w3 ⟨rfl, hb⟩
  have HB3 := hid (HB2.out.trans (hb.mono HB2.out.size))
  have HO3 := hid (HO2.out.below' hb)
  clear hb HO2 HB2
  rw [osL_W, ofW2]
  simp only [ofV]
  go_wp2_with fail
  refine (all_any _ 2 2 (xsW w.heap.size) _ HO3.out (by decide) sn_W (by rw [osL_W, defsW]; decide) nm_W).mono ?_
  rintro e' w4 ⟨v, rfl, hown, hb⟩
  have HB4 := hid (HB3.out.trans (hb.mono HB3.out.size))
  clear hb HO3 HB3
  rw [osL_W, allW] at hown
  obtain ⟨a9, c9, rfl, _⟩ := own_cel hown
  clear hown
  go_wp2_with fail
  go_ret
  exact ⟨rfl, HB4.out⟩
end Go.Proofs.Ytblefgkhikfmhaa
