
/- Package frames: Copy. -/
import Derived.Test.YtllkeeeajlgkpaaDoorJ8
namespace Go.Proofs.YtllkeeeajlgkpaaDoor
open Go.RowKit Go.Sort

def copyE (fs : List FR) (f : Int) : Int := if takE fs f = 0 then takeE fs else 1
def copyV (fs : List FR) (f : Int) : Int := if takE fs f = 0 then takeV fs else 0
def copyS (fs : List FR) (f : Int) : List FR := if takE fs f = 0 then (match lowR fs with
  | some m => fs.set m ⟨(fs.getD f.toNat default).bs, 1⟩
  | none => fs) else fs
theorem wpStill_load_mid {P : Program} {ops : Array Oper} {w : World} {Q : Act → Prop} {a : Act} {o : Oper} {rest : List Oper} (hgd : o.guard = none) (ty : TypeId) (x : Operand) (ho : o.op = .load ty x)
    (b off : Nat) (hx : a.eval x = .pointer (some ⟨b, off, none⟩)) (cs : List Value) (d : TypeDesc) (hc : w.rangeAt b off cs)
    (hu : P.underlying ty = some d) (hd : d.isRow = true) (hi : (P.info? ty).map (·.size) = some cs.length) (h : wpStill P ops w Q rest (a.put o.dst (.agg cs.toArray))) : wpStill P ops w Q (o :: rest) a := by
  refine wpStill_step fun K hK => ?_
  have hw : Region.wanted o (yielded ops a.tmps) = true := by simp [Region.wanted, hgd]
  rw [if_pos hw]
  unfold Oper.still execOp
  simp only [ho, hx, Instr.loadAt, Instr.sureAddr, Sem.run_bind, Sem.run_pure, Result.andThen_ok, run_loadVar_mid w b off ty cs d hc hu hd hi]
  rw [Oper.stillUpon_value]
  exact hK _ h
theorem size63 : (Tryd.prog.info? 58).map (·.size) = some 4096 := by kernel_rfl

set_option maxRecDepth 100000 in
set_option maxHeartbeats 1000000 in
theorem copy_any (p g h : Nat) (fs : List FR) (ws : List Nat) (f : Int) (w : World) (H : Pl w p g h fs ws) (hT : Tb w) :
    Calls Tryd.prog 27 #[.pointer (some ⟨p, 0, none⟩), .int .i64 f] w fun e w' => e = .returned (.tuple #[.int .i64 (copyV fs f), .int .i64 (copyE fs f)]) ∧ (∃ ws', Pl w' p g h (copyS fs f) ws') ∧ Ex w w' g h := by
  have HH := hid H
  have HL := hid (taken_any p g h fs ws f w H)
  have HTK := hid (take_any p g h fs ws w H hT)
  clear H hT
  go_enter Tryd.func27, Tryd.ntmps27
  go_wp2_with fail
  refine (HL.out).mono ?_
  rintro e' w' ⟨rfl, rfl⟩
  by_cases h0 : cntF fs f = 0
  · have HT := hid (show takE fs f = 1 by unfold takE; rw [h0]; rfl)
    have HF := hid (show copyE fs f = 1 ∧ copyV fs f = 0 ∧ copyS fs f = fs by unfold copyE copyV copyS; rw [HT.out]; exact ⟨rfl, rfl, rfl⟩)
    rw [HT.out]
    clear h0
    go_wp2_with fail
    go_ret2
    rw [HF.out.1, HF.out.2.1, HF.out.2.2]
    exact ⟨rfl, ⟨ws, HH.out⟩, Ex.refl _ _ _⟩
  · have HT := hid (show takE fs f = 0 by unfold takE; rw [if_neg h0])
    rw [HT.out]
    go_wp2_with fail
    refine (HTK.out).mono ?_
    rintro e' w2 ⟨rfl, hpl, hx⟩
    cases hl : lowR fs with
    | none =>
      have HV := hid (show takeV fs = 0 ∧ takeE fs = 4 ∧ takeS fs = fs by unfold takeV takeE takeS; rw [hl]; exact ⟨rfl, rfl, rfl⟩)
      have HF := hid (show copyE fs f = 4 ∧ copyV fs f = 0 ∧ copyS fs f = fs by unfold copyE copyV copyS; rw [HT.out, hl, HV.out.1, HV.out.2.1]; exact ⟨rfl, rfl, rfl⟩)
      rw [HV.out.2.2] at hpl
      rw [HV.out.1, HV.out.2.1]
      have HPL := hid hpl
      have HX := hid hx
      clear h0 hl hpl hx
      go_wp2_with fail
      go_ret2
      rw [HF.out.1, HF.out.2.1, HF.out.2.2]
      exact ⟨rfl, HPL.out, HX.out⟩
    | some m =>
      obtain ⟨hm, hfr, _⟩ := low_is hl
      obtain ⟨k, hk, rfl, hc⟩ := cnt_is h0
      have hkm : k ≠ m := by
        rintro rfl
        rw [free_at fs k hk] at hfr
        rw [hc] at h0
        exact h0 (by simpa using hfr)
      have HV := hid (show takeV fs = (m : Int) ∧ takeE fs = 0 ∧ takeS fs = fs.set m one0 by unfold takeV takeE takeS; rw [hl]; exact ⟨rfl, rfl, rfl⟩)
      have HF := hid (show copyE fs k = 0 ∧ copyV fs k = (m : Int) ∧ copyS fs k = fs.set m ⟨fs[k].bs, 1⟩ by unfold copyE copyV copyS; rw [HT.out, hl, HV.out.1, HV.out.2.1, Int.toNat_natCast, getF_at _ _ _ hk]; exact ⟨rfl, rfl, rfl⟩)
      rw [HV.out.2.2] at hpl
      rw [HV.out.1, HV.out.2.1]
      obtain ⟨ws2, hpl⟩ := hpl
      have HPL := hid hpl
      have HX := hid hx
      have hkl : k < (fs.set m one0).length := by rw [List.length_set]; exact hk
      have hml : m < (fs.set m one0).length := by rw [List.length_set]; exact hm
      have hat : (fs.set m one0)[k] = fs[k] := List.getElem_set_ne (fun e => hkm e.symm) _
      have hatm : (fs.set m one0)[m] = one0 := List.getElem_set_self _
      have hss : ∀ y, (fs.set m one0).set m y = fs.set m y := fun y => List.set_set _
      have hlen := HH.out.ok _ (List.getElem_mem hk)
      generalize hb : fs[k].bs = B at *
      have hrange : w2.rangeAt g (k * 4097) (B.map (Value.int .u8)) := fun j v hj => by
        have hj1 : j < 4096 := by have := (List.getElem?_eq_some_iff.1 hj).1; rw [List.length_map, hlen] at this; exact this
        rw [hpl.frames.cell', flatF_byte hpl.ok k j hkl hj1, hat, hb]
        rw [List.getElem?_map] at hj
        exact hj
      obtain ⟨p0, p1⟩ := hpl.cells
      have hlp := hpl.pool.lt
      have hlg := hpl.frames.lt
      have ez : (0 : Int) ≤ (k : Int) := by omega
      have ez2 : (0 : Int) ≤ (m : Int) := by omega
      have eb : (k : Int) < (fs.length : Int) := by omega
      have eb2 : (m : Int) < (fs.length : Int) := by omega
      rw [List.length_set] at p0
      have HR1 := hid (show w2.drew.rangeAt g (k * 4097) (B.map (Value.int .u8)) by rw [World.rangeAt_drew]; exact hrange)
      have HS1 := hid (show (Tryd.prog.info? 58).map (·.size) = some (B.map (Value.int .u8)).length by rw [List.length_map, hlen]; exact size63)
      clear hrange
      have HS2 := hid (show (Tryd.prog.info? 58).map (·.size) = some (B.map (Value.int .u8)).toArray.size by rw [List.size_toArray, List.length_map, hlen]; exact size63)
      have HON := hid (all_oneCell_toArray (nums_one .u8 B))
      have HTH := hid (show w2.drew.there g (m * 4097) (B.map (Value.int .u8)).toArray.size from there_row hpl.frames.drew _ _ (by rw [List.size_toArray, List.length_map, hlen]; have := fr_end hpl.ok m hml; omega))
      have HFB := hid (show splice (flatF (fs.set m one0)) (m * 4097) (B.map (Value.int .u8)) = flatF (fs.set m ⟨B, 1⟩) by
        have := flatF_bytes hpl.ok m 0 B (by omega) hml
        rw [Nat.add_zero, hatm, hss, splice_all _ _ (by rw [hlen]; exact one0_len)] at this
        exact this)
      have HLE := hid (show m * 4097 + (B.map (Value.int .u8)).length ≤ (flatF (fs.set m one0)).length by rw [List.length_map, hlen]; have := fr_end hpl.ok m hml; omega)
      have HLN := hid hlen
      clear h0 hc hl hpl hx hfr hb hat hatm hss hlen
      go_wp2_with fail
      go_still_tail 15, (by kernel_rfl)
      refine wpStill_load_mid rfl 58 _ rfl g (k * 4097) rfl (B.map (Value.int .u8)) _ HR1.out Tryd.underlying58 rfl HS1.out ?_
      repeat still_step
      refine wpStill_nil ?_
      change wpList _ _ _ _ _ w2.drew
      have HPL3 := hid HPL.out.drew
      have HX3 := hid (show Ex w w2.drew g h from HX.out.drewN 1)
      clear HPL HX HR1 p0 p1 hlp hlg HTK HL
      generalize w2.drew = w3 at *
      go_wp2_with (refine wpList_store_mid rfl 58 _ _ rfl g (m * 4097) (B.map (Value.int .u8)).toArray rfl rfl HTH.out HS2.out HON.out ?_)
      go_ret2
      rw [HF.out.1, HF.out.2.1, HF.out.2.2]
      have hX : Ex w3 (w3.setCells g (m * 4097) (B.map (Value.int .u8))) g h := Ex.setCells w3 g _ _ (.inl rfl)
      obtain ⟨n1, n2, n3⟩ := HPL3.out.ne
      have hll : (fs.set m one0).length = (fs.set m ⟨B, 1⟩).length := by rw [List.length_set, List.length_set]
      refine ⟨rfl, ⟨ws2, ⟨?_, ?_, ?_, HH.out.ok.set m HLN.out, by rw [List.length_set]; exact HH.out.n1, by rw [List.length_set]; exact HH.out.n2, by rw [HPL3.out.wl, hll], ?_, ?_⟩⟩, HX3.out.trans hX⟩
      · rw [← hll]; exact hX.row HPL3.out.pool n1 n2
      · have := Row.setCells (B.map (Value.int .u8)) (m * 4097) w3 _ HPL3.out.frames HLE.out
        rw [HFB.out] at this
        exact this
      · exact ⟨by rw [setCells_block w3 g h (fun e => n3 e.symm)]; exact HPL3.out.words.heap⟩
      · have := HPL3.out.wb
        rw [free_set fs m _ hm] at this ⊢
        exact this
      · intro y hy
        rcases List.mem_or_eq_of_mem_set hy with hy | rfl
        · exact HH.out.c0 y hy
        · show (0 : Int) ≤ 1; decide
end Go.Proofs.YtllkeeeajlgkpaaDoor
