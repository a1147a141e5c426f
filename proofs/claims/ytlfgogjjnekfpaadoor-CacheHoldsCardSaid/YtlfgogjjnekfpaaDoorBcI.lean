
/- hostellaw08: twins, made. -/
import Derived.Test.YtlfgogjjnekfpaaDoorBcH
namespace Go.Proofs.YtlfgogjjnekfpaaDoor
open Go.RowKit Go.Sort Go.Shelf Go.WideMaps Go.Maps Go.WideShapes Go.WideElems Go.MapKept Go.ChangeMaps
attribute [local go_sem] Oper.semAt_some

theorem infoU8b : (Tryd.prog.info? 5).map (fun i => (i.zero, i.size, i.bytes)) = some (some (.int .u8 0), 1, 1) := by kernel_rfl
theorem byt_cel8 {w : World} {a : Option Addr} {n : Nat} {l : List UInt8} (h : Byt w a n l) : Cel w a n (l.map B8) :=
  ⟨by rw [List.length_map]; exact h.hlen, fun i hi => by
    obtain ⟨b, o, e, hc⟩ := h.cell i (by simpa using hi)
    exact ⟨b, o, e, by rw [hc]; simp [B8]⟩⟩
set_option maxRecDepth 100000 in
set_option maxHeartbeats 8000000 in
theorem twins_any (a : Option Addr) (cap : Nat) (xs : List EN) (w : World) (hX : Ents w a xs.length xs) (hl : xs.length ≤ 1000000) :
    Calls Tryd.prog 43 #[.slice a xs.length cap] w fun e w' => ∃ v ys, e = .returned v ∧ Cpe w w.heap.size xs xs.length v ys w' := by
  have HX := hid hX
  clear hX
  go_enter Tryd.func43, Tryd.ntmps43
  go_wp2_with fail
  go_loopw [3, 4] (fun v i wr => ∃ k : Nat, ∃ ys, k ≤ xs.length ∧ i = .int .i64 k ∧ Cpe w w.heap.size xs k v ys wr) (fun _ i _ => xs.length - (intOf i).toNat)
  case atStart => exact ⟨0, [], Nat.zero_le _, rfl, ⟨ownE_nil _ _, rfl, fun y hy => by simp at hy, fun y hy => by simp at hy, fun i hi => by simp at hi, fun y hy => by simp at hy, Below.refl _ _, fun y hy => by simp at hy, fun i j hi => by simp at hi⟩⟩
  case round =>
    obtain ⟨k, ys, hk, rfl, hC⟩ := hrel
    have HC := hid hC
    obtain ⟨av, cv, rfl, _⟩ := own_rk hC.own (enC_len ys) (by omega)
    clear hC
    by_cases hlt : k < xs.length
    · have d1 : decide ((k : Int) < (xs.length : Int)) = true := by simp; omega
      have d1n : decide (k < xs.length) = true := by simp; omega
      obtain ⟨b, o, rfl, hcell⟩ := (HX.out.rows.below' (bthen (Below.refl _ _) HC.out.below)).some_of (by simp; omega)
      have g := fun j hj => hcell k (by simpa using hlt) j hj
      have e9 : (xs.map EN.cs)[k]'(by simpa using hlt) = xs[k].cs := by simp
      rw [e9] at g
      have g0 := g 0 (by simp [EN.cs])
      have g1 := g 1 (by simp [EN.cs])
      have g2 := g 2 (by simp [EN.cs])
      have g3 := g 3 (by simp [EN.cs])
      have g4 := g 4 (by simp [EN.cs])
      have g5 := g 5 (by simp [EN.cs])
      have g6 := g 6 (by simp [EN.cs])
      simp only [EN.cs, List.getElem_cons_zero, List.getElem_cons_succ, Nat.add_zero] at g0 g1 g2 g3 g4 g5 g6
      have hblt := World.block_lt_of_cell? _ _ g0
      dsimp only at hblt
      have HOK := hid ((HX.out.ok _ (List.getElem_mem hlt)).below HC.out.below)
      have HLT := hid hlt
      clear hcell g e9
      generalize hx : xs[k] = x at *
      have HXX := hid hx
      clear hx
      have HLN := hid (show ys.length ≤ 1000000000000 by have := HC.out.len; omega)
      obtain ⟨wa, hwa⟩ : ∃ wa, wa = wr.alloc (.cells (EN.cs x).toArray 99) := ⟨_, rfl⟩
      have HWA := hid hwa
      have HBA := hid (show Below wr.heap.size wr wa by rw [hwa]; exact bal _)
      have HRW := hid (show Row wa wr.heap.size 99 (EN.cs x) by rw [hwa]; exact Row.new wr _ _)
      have HZA := hid (show wa.heap.size = wr.heap.size + 1 by rw [hwa, World.size_alloc])
      obtain ⟨wb, hwb⟩ : ∃ wb, wb = wa.alloc (.cells #[] 5) := ⟨_, rfl⟩
      have HWB := hid hwb
      have HBB := hid (show Below wr.heap.size wr wb by rw [hwb]; exact bthen HBA.out (bal _))
      have HRB := hid (show Row wb wr.heap.size 99 (EN.cs x) by rw [hwb]; exact HRW.out.alloc _)
      have HFB := hid (HOK.out.below HBB.out)
      have HOE := hid (show wb.ownsRow (wr.heap.size + 1) 5 1 (.slice (some ⟨wr.heap.size + 1, 0, none⟩) 0 0) 0 [] by
        rw [hwb, ← HZA.out]
        exact ⟨rfl, .inr ⟨wa.heap.size, 0, #[], rfl, Nat.le_refl _, heap_alloc_new wa _, Nat.le_refl _, Nat.zero_le _, rfl, rfl⟩⟩)
      have HCD := hid (byt_cel8 HFB.out.byt)
      have HON := hid (show ∀ u ∈ x.data.map B8, u.oneCell' = true from fun u hu => by obtain ⟨c, _, rfl⟩ := List.mem_map.1 hu; rfl)
      have HM1 := hid (show (0 + x.data.length) * 1 ≤ 140737488355328 by have := HFB.out.data; omega)
      have HM2 := hid (show 0 + x.data.length ≤ maxLen by have := HFB.out.data; unfold maxLen; omega)
      have HM3 := hid (show wr.heap.size + 1 ≤ wb.heap.size by rw [hwb, World.size_alloc, HZA.out]; omega)
      have HEXP := hid (show wb = (wr.alloc (.cells #[.string (ba x.path), .int .u8 x.kind, .int .u16 x.mode, .int .u32 x.uid, .int .u32 x.gid, .slice x.a x.data.length x.c, .string (ba x.to)] 99)).alloc (.cells #[] 5) by rw [hwb, hwa]; rfl)
      have HOEX := hid (HEXP.out ▸ HOE.out)
      have HCDX := hid (HEXP.out ▸ HCD.out)
      have HM3X := hid (HEXP.out ▸ HM3.out)
      clear hwa hwb
      go_wp2_with (at_builtin; go_must (first | (refine wpList_ap1 Tryd.underlying64 infoU8b rfl rfl _ _ rfl (wr.heap.size + 1) (.slice (some ⟨wr.heap.size + 1, 0, none⟩) 0 0) 0 [] (x.data.map B8) rfl x.a x.data.length x.c rfl HOEX.out HCDX.out HON.out HFB.out.nil HM1.out HM2.out HM3X.out ?_; intro v1 w2 hown0 hgrow0 hb20; have hown1 := own_ext hown0 (Nat.zero_add _) (List.nil_append _); obtain ⟨na, nc, rfl, hby, hnil, hli, hob⟩ := own_data hown1; rw [← HEXP.out] at hb20; have HOB := hid hob; have hr2 := HRB.out.below hb20 (Nat.lt_succ_self _); have HB2 := hid (HBB.out.trans (hb20.mono (Nat.le_succ _))); have HL := hid hli; have HFY := hid (show EnOk w2 { x with a := na, c := nc } from ⟨hby, hnil, HFB.out.path, HFB.out.to, HFB.out.data, HFB.out.mode⟩); have s0 := (show w2.cell? ⟨wr.heap.size, 0, none⟩ = some (.string (ba x.path)) from hr2.cell' 0); have s1 := (show w2.cell? ⟨wr.heap.size, 1, none⟩ = some (.int .u8 x.kind) from hr2.cell' 1); have s2 := (show w2.cell? ⟨wr.heap.size, 2, none⟩ = some (.int .u16 x.mode) from hr2.cell' 2); have s3 := (show w2.cell? ⟨wr.heap.size, 3, none⟩ = some (.int .u32 x.uid) from hr2.cell' 3); have s4 := (show w2.cell? ⟨wr.heap.size, 4, none⟩ = some (.int .u32 x.gid) from hr2.cell' 4); have s5 := (show w2.cell? ⟨wr.heap.size, 5, none⟩ = some (.slice x.a x.data.length x.c) from hr2.cell' 5); have s6 := (show w2.cell? ⟨wr.heap.size, 6, none⟩ = some (.string (ba x.to)) from hr2.cell' 6); have f5 := hr2.frozen 5; have hlB := hr2.lt; have HV := hid (own_ne HC.out.own (.inr (Nat.le_refl _))); have HO3 := hid (own_setOther (own_below HC.out.own HB2.out) HV.out (.slice na x.data.length nc) (o := 5)); have HG := hid (show w2.heap.size = (w2.setCell ⟨wr.heap.size, 5, none⟩ (.slice na x.data.length nc)).heap.size by simp); have HZ3 := hid (show w.heap.size ≤ (w2.setCell ⟨wr.heap.size, 5, none⟩ (.slice na x.data.length nc)).heap.size by have h1 := HC.out.below.size; have h2 := HB2.out.size; simp; omega); clear hr2 hby hnil hli hob hown0 hown1 hgrow0 hb20) | (refine wpList_app7 rfl _ _ rfl w.heap.size (.slice av ys.length cv) ys { x with a := na, c := nc } rfl w2.heap.size HG.out rfl HO3.out HLN.out HZ3.out ?_; intro v' w9 hown hgrow hat; have HC9 := hid (Cpe.step HC.out HLT.out HXX.out HB2.out HFY.out rfl HL.out HOB.out hown hgrow hat); clear hown hgrow hat)))
      go_roundw
      case rel => exact ⟨k + 1, ys ++ [{ x with a := na, c := nc }], by omega, by go_num, HC9.out⟩
      case measure => simp [intOf]; omega
    · have d1 : decide ((k : Int) < (xs.length : Int)) = false := by simp; omega
      have d1n : decide (k < xs.length) = false := by simp; omega
      obtain rfl : k = xs.length := by omega
      go_wp2_with fail
      go_ret
      exact ⟨_, ys, rfl, HC.out⟩
end Go.Proofs.YtlfgogjjnekfpaaDoor
