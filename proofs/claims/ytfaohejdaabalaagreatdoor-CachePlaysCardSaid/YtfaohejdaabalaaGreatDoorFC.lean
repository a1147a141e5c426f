
/- vfs: New. -/
import Derived.Test.YtfaohejdaabalaaGreatDoorKH
import Derived.Test.YtfaohejdaabalaaGreatDoorRK
namespace Go.Proofs.YtfaohejdaabalaaGreatDoor
open Go.RowKit Go.Sort

def root0 : ND := ⟨[47], 0, 2, 493, 0, 0, 0, [], [], []⟩
def newE (L : List ND) (i : Nat) : List EN → Int × Nat × List ND
  | [] => (0, 0, L)
  | x :: xs => if (addE L x).1 = 0 then newE (addE L x).2 (i + 1) xs else ((addE L x).1, i, L)
theorem newE_go {L : List ND} {i : Nat} {x : EN} {xs : List EN} (h : (addE L x).1 = 0) : newE L i (x :: xs) = newE (addE L x).2 (i + 1) xs := by rw [newE, if_pos h]
theorem newE_no {L : List ND} {i : Nat} {x : EN} {xs : List EN} (h : ¬ (addE L x).1 = 0) : newE L i (x :: xs) = ((addE L x).1, i, L) := by rw [newE, if_neg h]
theorem addE_len {L : List ND} {x : EN} (h : (addE L x).1 = 0) : (addE L x).2.length = L.length + 1 := by
  unfold addE at h ⊢
  split
  · rename_i e; rw [e] at h; cases h
  · rename_i ds e
    rw [e] at h
    simp only at h ⊢
    split
    · rename_i h2; rw [if_pos h2] at h; cases h
    · rename_i h2
      rw [if_neg h2] at h
      split
      · rename_i h3; rw [h3] at h; cases h
      · rename_i h3
        rw [h3] at h
        simp only at h
        split
        · rename_i h4; rw [h4] at h; cases h
        · rename_i j h4
          rw [h4] at h
          simp only at h
          split
          · exact addN_len _ _ _ _
          · rename_i h5; rw [if_neg h5] at h; cases h
/-- The entries of a slice. -/
structure Ents (w : World) (a : Option Addr) (n : Nat) (xs : List EN) : Prop where
  rows : Rk w 7 a n (xs.map EN.cs)
  ok : ∀ x ∈ xs, EnOk w x
theorem Ents.below {w w' : World} {a : Option Addr} {n : Nat} {xs : List EN} (h : Ents w a n xs) (hb : Below w.heap.size w w') : Ents w' a n xs := ⟨h.rows.below' hb, fun x hx => (h.ok x hx).below hb⟩
def NewsPost (w : World) (xs : List EN) (e : Ending) (w' : World) : Prop := Below w.heap.size w w' ∧
  if 64 < xs.length then e = .returned (.tuple #[.pointer none, .int .i64 15, .int .i64 (-1)])
  else if (newE [root0] 0 xs).1 = 0 then ∃ F t, e = .returned (.tuple #[.pointer (some ⟨F, 0, none⟩), .int .i64 0, .int .i64 0]) ∧ t.L = (newE [root0] 0 xs).2.2 ∧ FSat w' F t ∧ w.heap.size ≤ F ∧ Far w.heap.size w' t
  else e = .returned (.tuple #[.pointer none, .int .i64 (newE [root0] 0 xs).1, .int .i64 ((newE [root0] 0 xs).2.1 : Nat)])

theorem fine0 : Fine [root0] := by
  have h0 : ∀ i, i < [root0].length → i = 0 := fun i hi => by simpa using hi
  refine ⟨by simp, by simp, rfl, ?_, ?_, ?_, ?_, ?_, ?_, ?_⟩ <;> intro i hi <;> obtain rfl := h0 i hi
  · exact ⟨by decide, rfl⟩
  · intro p hp; cases hp
  · decide
  · exact ⟨by decide, rfl⟩
  · exact ⟨by decide, by decide⟩
  · decide
  · decide
theorem bld0 {B : Nat} {w : World} {F K R M S : Nat} (hR : Row w R 94 [.int .i64 0, .string (ba [47]), .pointer (some ⟨R, 0, none⟩), .int .u8 2, .int .u16 493, .int .u32 0, .int .u32 0, .int .i64 0, .map (some M)]) (hM : NMap w M []) (hK : NMap w K [([47], (83, R))]) (hF : Row w F 87 [.pointer (some ⟨R, 0, none⟩), .slice (some ⟨S, 0, none⟩) 1 1])
    (hS : Row w S 145 [ndV (83, R)]) (hMK : M ≠ K) (lF : B ≤ F) (lK : B ≤ K) (lM : B ≤ M) (lS : B ≤ S) : Bld w F K ⟨[root0], [R], [M]⟩ ∧ Low B w F K ⟨[root0], [R], [M]⟩ := by
  have h0 : ∀ i, i < [root0].length → i = 0 := fun i hi => by simpa using hi
  have ho : w.ownsRow 0 145 1 (.slice (some ⟨S, 0, none⟩) 1 1) 1 [ndV (83, R)] := hS.owns (base := 0) (n := 1) (cap := 1) (Nat.zero_le _) rfl (Nat.le_refl _) (by unfold maxLen; omega)
  refine ⟨⟨⟨fine0, ⟨_, hF, ho⟩, ?_⟩, hK, rfl, rfl, ?_, ?_⟩, ⟨lF, lK, ?_, ?_, ?_⟩⟩
  · intro i hi
    obtain rfl := h0 i hi
    exact ⟨fun _ => ⟨hR, hM⟩, fun h => (by cases h), fun h => absurd rfl h⟩
  · intro i hi _
    obtain rfl := h0 i hi
    exact hMK
  · intro i j hi hj _ _ hne
    exact absurd ((h0 i hi).trans (h0 j hj).symm) hne
  · intro i hi _
    obtain rfl := h0 i hi
    exact lM
  · intro v c0 hr g hg
    have e1 := hr.cell 1 (by simp)
    have e2 := hF.cell 1 (by simp)
    rw [e2] at e1
    simp only [List.getElem_cons_zero, List.getElem_cons_succ, Option.some.injEq] at e1
    subst e1
    cases hg
    exact lS
  · intro i hi k
    obtain rfl := h0 i hi
    exact absurd rfl k

set_option maxRecDepth 100000 in
set_option maxHeartbeats 8000000 in
theorem new_any (a : Option Addr) (n c : Nat) (xs : List EN) (w : World) (hX : Ents w a n xs) (hn : n ≤ 1000000) :
    Calls Tryz.prog 11 #[.slice a n c] w (NewsPost w xs) := by
  have hxl : xs.length = n := by have := hX.rows.hlen; simpa using this
  have HX := hid hX
  have HXL := hid hxl
  clear hX
  by_cases hbig : 64 < n
  · have d1 : decide ((64 : Int) < (n : Int)) = true := by simp; omega
    have HG := hid (show 64 < xs.length by omega)
    clear hbig hxl
    go_enter Tryz.func11, Tryz.ntmps11
    go_wp2_with fail
    refine bodyPost_ret (v := .tuple #[.pointer none, .int .i64 15, .int .i64 (-1)]) (by simp [results, Tryz.results11, Tryz.f11, go_sem]) rfl ⟨Below.refl _ _, ?_⟩
    rw [if_pos HG.out]
  · have d1 : decide ((64 : Int) < (n : Int)) = false := by simp; omega
    have HG := hid (show ¬ 64 < xs.length by omega)
    have hn64 : n ≤ 64 := by omega
    have hmm := @run_makeMap Tryz.prog
    clear hbig hxl
    go_enter Tryz.func11, Tryz.ntmps11
    go_wp2_with fail
    refine (newRoot_any w).mono ?_
    rintro e' w1 ⟨rfl, hR, hM, hb, hs⟩
    have HB1 := hid hb
    have HS1 := hid hs
    obtain ⟨⟨r0, r1, _⟩, _⟩ := hR.nine
    have hRl := hR.lt
    -- the new blocks
    have b1 : Below w1.heap.size w1 (w1.alloc (.cells [ndV (83, w.heap.size + 2)].toArray 145)) := bal _
    have b2 := b1.alloc b1.size (.cells [.pointer (some ⟨w.heap.size + 2, 0, none⟩), .slice (some ⟨w1.heap.size, 0, none⟩) 1 1].toArray 87)
    have b3 := b2.alloc b2.size (.map #[] 0)
    have hSr := ((Row.new w1 145 [ndV (83, w.heap.size + 2)]).alloc (.cells [.pointer (some ⟨w.heap.size + 2, 0, none⟩), .slice (some ⟨w1.heap.size, 0, none⟩) 1 1].toArray 87)).alloc (.map #[] 0)
    have hFr := (Row.new (w1.alloc (.cells [ndV (83, w.heap.size + 2)].toArray 145)) 87 [.pointer (some ⟨w.heap.size + 2, 0, none⟩), .slice (some ⟨w1.heap.size, 0, none⟩) 1 1]).alloc (.map #[] 0)
    have hKm := NMap.made ((w1.alloc (.cells [ndV (83, w.heap.size + 2)].toArray 145)).alloc (.cells [.pointer (some ⟨w.heap.size + 2, 0, none⟩), .slice (some ⟨w1.heap.size, 0, none⟩) 1 1].toArray 87))
    have hRr := (hR.below b3 hR.lt)
    have hMm := hM.below b3
    simp only [World.size_alloc] at hFr hKm
    obtain ⟨w2, hrun, hK2, hg2⟩ := hKm.put [47] (by decide) (by decide) (83, w.heap.size + 2)
    have hS2 := hSr.grown hg2 (hKm.ne_row hSr)
    have hF2 := hFr.grown hg2 (hKm.ne_row hFr)
    have hR2 := hRr.grown hg2 (hKm.ne_row hRr)
    have hM2 : NMap w2 (w.heap.size + 1) [] := hMm.same (hg2.block _ hMm.lt (by simp only [ne_eq, Option.some.injEq]; omega))
    obtain ⟨HBL, HLO⟩ := bld0 (B := w.heap.size) hR2 hM2 hK2 hF2 hS2 (by omega) (by omega) (by omega) (by omega) (by omega)
    have hbw : Below w.heap.size w w2 := (bthen HB1.out b3).grown hg2 (by have := b3.size; have := HB1.out.size; omega) (fun k e => by cases e; omega)
    have HBW := hid hbw
    have HBL0 := hid HBL
    have HLO0 := hid HLO
    have hrun' : (Instr.mapUpdate 92 (.map (some (w1.heap.size + 1 + 1))) (.string (ByteArray.mk #[47])) (.iface 83 (.pointer (some ⟨w.heap.size + 2, 0, none⟩)))).run Tryz.prog (((w1.alloc (.cells #[.iface 83 (.pointer (some ⟨w.heap.size + 2, 0, none⟩))] 145)).alloc (.cells #[.pointer (some ⟨w.heap.size + 2, 0, none⟩), .slice (some ⟨w1.heap.size, 0, none⟩) 1 1] 87)).alloc (.map #[] 0)) = .ok () w2 := hrun
    have r1' : (((w1.alloc (.cells #[.iface 83 (.pointer (some ⟨w.heap.size + 2, 0, none⟩))] 145)).alloc (.cells #[.pointer (some ⟨w.heap.size + 2, 0, none⟩), .slice (some ⟨w1.heap.size, 0, none⟩) 1 1] 87)).alloc (.map #[] 0)).cell? ⟨w.heap.size + 2, 1, none⟩ = some (.string (ByteArray.mk #[47])) := keepC b3 r1
    clear hR hM hb hs b1 b2 b3 hSr hFr hKm hRr hMm hrun hK2 hg2 hS2 hF2 hR2 hM2 HBL HLO hbw r0 r1
    go_wp2_with fail
    generalize hF : w1.heap.size + 1 = F at HBL0 HLO0 ⊢
    clear hF hrun' r1'
    go_loopw [32] (fun i wr => ∃ (k : Nat) (t : FT), k ≤ n ∧ i = .int .i64 k ∧ newE t.L k (xs.drop k) = newE [root0] 0 xs ∧ t.L.length = k + 1 ∧ Bld wr F (F + 1) t ∧ Low w.heap.size wr F (F + 1) t ∧ Below w.heap.size w wr) (fun i _ => n - (intOf i).toNat)
    case atStart => exact ⟨0, _, Nat.zero_le _, rfl, rfl, rfl, HBL0.out, HLO0.out, HBW.out⟩
    case round =>
      obtain ⟨k, t, hk, rfl, hne, htl, hB, hL, hbw⟩ := hrel
      have HNE := hid hne
      have HTL := hid htl
      have HB := hid hB
      have HL := hid hL
      have HW := hid hbw
      clear hne htl hB hL hbw
      by_cases hlt : k < n
      · have d2 : decide ((k : Int) < (n : Int)) = true := by simp; omega
        have d2n : decide (k < n) = true := by simp; omega
        have hkx : k < xs.length := by rw [HXL.out]; exact hlt
        obtain ⟨b, o, rfl, hcell⟩ := (HX.out.below HW.out).rows.some_of (by simp; omega)
        have g := fun j hj => hcell k (by simpa using hkx) j hj
        have e9 : (xs.map EN.cs)[k]'(by simpa using hkx) = xs[k].cs := by simp
        rw [e9] at g
        have g0 := g 0 (by simp [EN.cs])
        have g1 := g 1 (by simp [EN.cs])
        have g2 := g 2 (by simp [EN.cs])
        have g3 := g 3 (by simp [EN.cs])
        have g4 := g 4 (by simp [EN.cs])
        have g5 := g 5 (by simp [EN.cs])
        have g6 := g 6 (by simp [EN.cs])
        simp only [EN.cs, List.getElem_cons_zero, List.getElem_cons_succ, Nat.add_zero] at g0 g1 g2 g3 g4 g5 g6
        have hblt := World.block_lt_of_cell? _ _ g0
        dsimp only at hblt
        have HOK := hid ((HX.out.ok _ (List.getElem_mem hkx)).below HW.out)
        have HDR := hid (List.drop_eq_getElem_cons hkx)
        generalize xs[k] = x at *
        have HBA := hid (@bal wr (.cells x.cs.toArray 43))
        have HADD := hid (add_any w.heap.size F (F + 1) t x _ (HB.out.below HBA.out) (HL.out.below HB.out.F HBA.out) (HOK.out.below HBA.out) (by rw [HTL.out]; omega))
        unfold EN.cs at HADD
        clear hcell g e9
        go_wp2_with fail
        refine (HADD.out).mono ?_
        rintro e' w3 ⟨t', rfl, hl', hB', hL', hb'⟩
        have HW3 := hid (show Below w.heap.size w w3 from (HW.out.trans (HBA.out.mono HW.out.size)).trans hb')
        by_cases he : (addE t.L x).1 = 0
        · have HNE2 := hid (show newE t'.L (k + 1) (xs.drop (k + 1)) = newE [root0] 0 xs by rw [hl', ← newE_go he, ← HDR.out]; exact HNE.out)
          have HTL2 := hid (show t'.L.length = k + 1 + 1 by rw [hl', addE_len he, HTL.out])
          have HB2 := hid hB'
          have HL2 := hid hL'
          rw [he]
          clear he hl' hB' hL' hb'
          go_wp2_with fail
          go_roundw
          case rel => exact ⟨k + 1, t', by omega, by go_num, HNE2.out, HTL2.out, HB2.out, HL2.out, HW3.out⟩
          case measure => simp [intOf]; omega
        · have HNO := hid (show newE [root0] 0 xs = ((addE t.L x).1, k, t.L) by rw [← HNE.out, HDR.out, newE_no he])
          have he' : ((addE t.L x).1 == 0) = false := by simpa using he
          have HE := hid he
          clear he hl' hB' hL' hb'
          generalize (addE t.L x).1 = er at *
          go_wp2_with fail
          refine bodyPost_ret (v := .tuple #[.pointer none, .int .i64 er, .int .i64 (k : Int)]) (by simp [results, Tryz.results11, Tryz.f11, go_sem]) rfl ⟨HW3.out, ?_⟩
          rw [if_neg HG.out, HNO.out, if_neg HE.out]
      · have d2 : decide ((k : Int) < (n : Int)) = false := by simp; omega
        have d2n : decide (k < n) = false := by simp; omega
        have HFIN := hid (show newE [root0] 0 xs = (0, 0, t.L) by rw [← HNE.out, List.drop_eq_nil_of_le (by rw [HXL.out]; omega), newE])
        clear hlt hk
        go_wp2_with fail
        refine bodyPost_ret (v := .tuple #[.pointer (some ⟨F, 0, none⟩), .int .i64 0, .int .i64 0]) (by simp [results, Tryz.results11, Tryz.f11, go_sem]) rfl ⟨HW.out, ?_⟩
        rw [if_neg HG.out, HFIN.out, if_pos rfl]
        exact ⟨F, t, rfl, rfl, HB.out.fs, HL.out.loF, HL.out.lod⟩
end Go.Proofs.YtfaohejdaabalaaGreatDoor
