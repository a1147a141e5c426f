
/- Package frames: Down. -/
import Derived.Test.YtllkeeeajlgkpaaDoorJ5
namespace Go.Proofs.YtllkeeeajlgkpaaDoor
open Go.RowKit Go.Sort

set_option maxRecDepth 100000 in
set_option maxHeartbeats 1000000 in
theorem down_any (p g h : Nat) (fs : List FR) (ws : List Nat) (f : Int) (w : World) (H : Pl w p g h fs ws) (hM : ∀ x ∈ fs, x.cnt < 9223372036854775807) :
    Calls Tryd.prog 19 #[.pointer (some ⟨p, 0, none⟩), .int .i64 f] w fun e w' => e = .returned (.int .i64 (takE fs f)) ∧ (∃ ws', Pl w' p g h (downS fs f) ws') ∧ Ex w w' g h := by
  have HH := hid H
  have HL := hid (taken_any p g h fs ws f w H)
  clear H
  go_enter Tryd.func19, Tryd.ntmps19
  go_wp2_with fail
  refine (HL.out).mono ?_
  rintro e' w' ⟨rfl, rfl⟩
  by_cases h0 : cntF fs f = 0
  · have HF := hid (show takE fs f = 1 ∧ downS fs f = fs by unfold takE downS; rw [h0]; exact ⟨rfl, rfl⟩)
    rw [HF.out.1]
    clear h0
    go_wp2_with fail
    go_ret
    rw [HF.out.1, HF.out.2]
    exact ⟨rfl, ⟨ws, HH.out⟩, Ex.refl _ _ _⟩
  · obtain ⟨k, hk, rfl, hc⟩ := cnt_is h0
    have HF := hid (show takE fs (k : Int) = 0 ∧ downS fs (k : Int) = fs.set k ⟨fs[k].bs, fs[k].cnt - 1⟩ by unfold takE downS; rw [if_neg h0, if_neg h0, hc, Int.toNat_natCast, getF_at _ _ _ hk]; exact ⟨rfl, rfl⟩)
    rw [HF.out.1]
    obtain ⟨p0, p1⟩ := HH.out.cells
    have hlp := HH.out.pool.lt
    have hlg := HH.out.frames.lt
    have hx := HH.out.count k hk
    have hfz := HH.out.frames.frozen (k * 4097 + 4096)
    have hx0 := HH.out.c0 _ (List.getElem_mem hk)
    have hx1 := hM _ (List.getElem_mem hk)
    have HFC := hid (flatF_count HH.out.ok k (fs[k].cnt - 1) hk)
    have hcn : fs[k].cnt ≠ 0 := fun e => h0 (by rw [hc]; exact e)
    have HFR := hid (free_at fs k hk)
    have HFS := hid (free_set fs k ⟨fs[k].bs, fs[k].cnt - 1⟩ hk)
    have HLN := hid (HH.out.ok _ (List.getElem_mem hk))
    obtain ⟨n1, n2, n3⟩ := HH.out.ne
    have ez : (0 : Int) ≤ (k : Int) := by omega
    have eb : (k : Int) < (fs.length : Int) := by omega
    clear h0 hc hM
    generalize fs[k] = x at *
    have ew := IntWalk.wrap64_in (x.cnt - 1) ⟨by omega, by omega⟩
    have HX := hid (show Ex w (w.setCell ⟨g, k * 4097 + 4096, none⟩ (.int .i64 (x.cnt - 1))) g h from Ex.set w g _ _ (.inl rfl))
    have HP2 := hid (HX.out.row HH.out.pool n1 n2)
    have HF2 := hid (show Row (w.setCell ⟨g, k * 4097 + 4096, none⟩ (.int .i64 (x.cnt - 1))) g 60 (flatF (fs.set k ⟨x.bs, x.cnt - 1⟩)) by rw [← HFC.out]; exact HH.out.frames.set _ _)
    have HW2 := hid (HH.out.words.other (a := ⟨g, k * 4097 + 4096, none⟩) (fun e => n3 e.symm) (.int .i64 (x.cnt - 1)))
    have HC0 := hid (show ∀ y ∈ fs.set k ⟨x.bs, x.cnt - 1⟩, 0 ≤ y.cnt from fun y hy => by
      rcases List.mem_or_eq_of_mem_set hy with hy | rfl
      · exact HH.out.c0 y hy
      · show 0 ≤ x.cnt - 1; omega)
    by_cases h1 : x.cnt = 1
    · have hk64 : k / 64 < ws.length := by have := HH.out.wl; omega
      have HM := hid (fun w2 (a : Row w2 p 54 (poolC g h fs.length ws.length)) (b : Row w2 h 61 (ws.map W8)) => mark_at p g h fs.length ws k (k / 64) (k % 64) w2 a b (by omega) (Nat.mod_lt _ (by omega)) hk64 (HH.out.wb _ hk64).1 (by have := HH.out.wl; have := HH.out.n2; omega))
      have HWB := hid (wb_mark HH.out.wb k hk64)
      have hz : x.cnt - 1 = 0 := by omega
      rw [hz] at HX HP2 HF2 HW2 HC0 HFS
      rw [hz] at ew
      rw [hz] at HF
      clear HFC
      go_wp2_with fail
      refine (HM.out _ HP2.out HW2.out).mono ?_
      rintro e' w3 ⟨rfl, hw3⟩
      have hP3 : Row w3 p 54 (poolC g h fs.length ws.length) := by rw [hw3]; exact HP2.out.drew.other n2 _
      have hF3 : Row w3 g 60 (flatF (fs.set k ⟨x.bs, 0⟩)) := by rw [hw3]; exact HF2.out.drew.other n3 _
      have hW3 : Row w3 h 61 ((ws.set (k / 64) (ws[k / 64] ||| 2 ^ (k % 64))).map W8) := by rw [hw3]; exact row_set_word HW2.out.drew _ _
      have hX3 : Ex w w3 g h := by rw [hw3]; exact (HX.out.drewN 1).trans (Ex.set _ h _ _ (.inr rfl))
      have hPl : Pl w3 p g h (fs.set k ⟨x.bs, 0⟩) (ws.set (k / 64) (ws[k / 64] ||| 2 ^ (k % 64))) := by
        refine ⟨?_, hF3, hW3, HH.out.ok.set k HLN.out, by rw [List.length_set]; exact HH.out.n1, by rw [List.length_set]; exact HH.out.n2, by rw [List.length_set, List.length_set]; exact HH.out.wl, ?_, HC0.out⟩
        · rw [List.length_set, List.length_set]; exact hP3
        · rw [HFS.out]; exact HWB.out
      have HPl := hid hPl
      have HX3 := hid hX3
      clear hw3 hP3 hF3 hW3 hX3 hPl
      go_wp2_with fail
      go_ret
      rw [HF.out.1, HF.out.2]
      exact ⟨rfl, ⟨_, HPl.out⟩, HX3.out⟩
    · have hne : x.cnt - 1 ≠ 0 := by omega
      have q1 : (x.cnt - 1 == 0) = false := by simpa using hne
      have HWF := hid (take_upd (freeF fs) k (x.cnt - 1 == 0) (HFR.out.trans (both_ne hcn hne)))
      clear hne hcn h1 HFC
      go_wp2_with fail
      go_ret
      rw [HF.out.1, HF.out.2]
      refine ⟨rfl, ⟨ws, ⟨?_, HF2.out, HW2.out, HH.out.ok.set k HLN.out, by rw [List.length_set]; exact HH.out.n1, by rw [List.length_set]; exact HH.out.n2, by rw [List.length_set]; exact HH.out.wl, ?_, HC0.out⟩⟩, HX.out⟩
      · rw [List.length_set]; exact HP2.out
      · rw [HFS.out, HWF.out]; exact HH.out.wb
end Go.Proofs.YtllkeeeajlgkpaaDoor
