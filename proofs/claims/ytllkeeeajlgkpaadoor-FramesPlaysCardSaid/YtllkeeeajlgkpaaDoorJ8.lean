
/- Package frames: Store, Copy. -/
import Derived.Test.YtllkeeeajlgkpaaDoorJ7
namespace Go.Proofs.YtllkeeeajlgkpaaDoor
open Go.RowKit Go.Sort

/-- copy into a row: the row, and what stands. -/
theorem wpList_copy_in {P : Program} {w : World} {ops : Array Oper} {rest : List Oper} {o : Oper} {a : Act} {Q : Exit → Act → World → Prop} (hgd : o.guard = none) (d s : Operand) (dT sT : TypeId)
    (ho : o.op = .call { callee := .builtin .copy, args := #[d, s], argTypes := #[dT, sT] }) (elem : TypeId) (hu : P.underlying dT = some (.slice elem)) (hsz : (P.info? elem).map (·.size) = some 1)
    (dp sp : Option Addr) (dLen dCap sLen sCap : Nat) (hd : a.eval d = .slice dp dLen dCap) (hs : a.eval s = .slice sp sLen sCap)
    (g off : Nat) (cur : List Value) (t : TypeId) (hg : Row w g t cur) (cs : List Value) (hn : cs.length = Nat.min sLen dLen)
    (hpos : 0 < cs.length → dp = some ⟨g, off, none⟩ ∧ ∃ ad, sp = some ad ∧ ∀ j v, cs[j]? = some v → w.cell? (ad.add j) = some v)
    (hfit : off + cs.length ≤ cur.length) (h1 : ∀ v ∈ cs, v.oneCell' = true) (g2 : Nat)
    (h : ∀ w', Row w' g t (splice cur off cs) → Ex w w' g g2 → wpList P ops Q rest (a.put o.dst (goInt cs.length)) w') :
    wpList P ops Q (o :: rest) a w := by
  by_cases h0 : cs.length = 0
  · obtain rfl : cs = [] := List.eq_nil_of_length_eq_zero h0
    refine wpList_copy_nothing hgd d s dT sT ho elem hu hsz dp sp dLen dCap sLen sCap hd hs (by simpa using hn.symm) ?_
    exact h w (by rw [splice_nil]; exact hg) (Ex.refl _ _ _)
  · obtain ⟨rfl, ad, rfl, hsrc⟩ := hpos (by omega)
    refine wpList_copy_own hgd d s dT sT ho elem hu hsz g off dLen dCap ad sLen sCap hd hs cur.toArray t hg.heap cs hn hsrc (by simpa using hfit) h1 ?_
    exact h _ hg.setRow (Ex.setRow w g _ (.inl rfl))

theorem Ex.weak {w w' : World} {a b : Nat} (h : Ex w w' a a) : Ex w w' a b := ⟨h.os, h.tape, h.output, h.size, fun k hk h1 _ => h.block k hk h1 h1⟩
def storeS (fs : List FR) (f off : Int) (l : List Int) : List FR :=
  if loadE fs f off l.length = 0 then fs.set f.toNat ⟨splice (fs.getD f.toNat default).bs off.toNat l, (fs.getD f.toNat default).cnt⟩ else fs

set_option maxRecDepth 100000 in
set_option maxHeartbeats 1000000 in
theorem store_any (p g h : Nat) (fs : List FR) (ws : List Nat) (f off : Int) (ba : Option Addr) (n cap : Nat) (l : List Int) (w : World) (H : Pl w p g h fs ws) (hB : Nums w .u8 ba n l) (hn : n ≤ 9223372036854775807) :
    Calls Tryd.prog 25 #[.pointer (some ⟨p, 0, none⟩), .int .i64 f, .int .i64 off, .slice ba n cap] w fun e w' => e = .returned (.int .i64 (loadE fs f off n)) ∧ Pl w' p g h (storeS fs f off l) ws ∧ Ex w w' g h := by
  obtain rfl := hB.hlen
  have HH := hid H
  have HBY := hid hB
  have HL := hid (taken_any p g h fs ws f w H)
  have HWI := hid (within_any off l.length w)
  clear H hB
  go_enter Tryd.func25, Tryd.ntmps25
  go_wp2_with fail
  refine (HL.out).mono ?_
  rintro e' w' ⟨rfl, rfl⟩
  by_cases h0 : cntF fs f = 0
  · have HT := hid (show takE fs f = 1 by unfold takE; rw [h0]; rfl)
    have HF := hid (show loadE fs f off l.length = 1 ∧ storeS fs f off l = fs by unfold storeS loadE; rw [HT.out]; exact ⟨rfl, rfl⟩)
    rw [HT.out]
    clear h0
    go_wp2_with fail
    go_ret
    rw [HF.out.1, HF.out.2]
    exact ⟨rfl, HH.out, Ex.refl _ _ _⟩
  · have HT := hid (show takE fs f = 0 by unfold takE; rw [if_neg h0])
    rw [HT.out]
    go_wp2_with fail
    refine (HWI.out).mono ?_
    rintro e' w' ⟨rfl, rfl⟩
    cases hw : withinB off l.length with
    | false =>
      have HF := hid (show loadE fs f off l.length = 1 ∧ storeS fs f off l = fs by unfold storeS loadE; rw [HT.out, hw]; exact ⟨rfl, rfl⟩)
      clear h0
      go_wp2_with fail
      go_ret
      rw [HF.out.1, HF.out.2]
      exact ⟨rfl, HH.out, Ex.refl _ _ _⟩
    | true =>
      obtain ⟨o, m, rfl, hm, hom⟩ := within_is hw
      obtain rfl : l.length = m := by omega
      obtain ⟨k, hk, rfl, hc⟩ := cnt_is h0
      have hle : loadE fs k o l.length = 0 := by unfold loadE; rw [HT.out, hw]; rfl
      have HF := hid (show loadE fs k o l.length = 0 ∧ storeS fs k o l = fs.set k ⟨splice fs[k].bs o l, fs[k].cnt⟩ from ⟨hle, by unfold storeS; rw [hle, if_pos rfl, Int.toNat_natCast, Int.toNat_natCast, getF_at _ _ _ hk]⟩)
      have hlen := HH.out.ok _ (List.getElem_mem hk)
      have HFB := hid (flatF_bytes HH.out.ok k o l hom hk)
      have HSL := hid (show (splice fs[k].bs o l).length = 4096 by rw [length_splice _ _ _ (by omega)]; exact hlen)
      have HWF := hid (take_upd (freeF fs) k (fs[k].cnt == 0) (free_at fs k hk))
      have HFS := hid (free_set fs k ⟨splice fs[k].bs o l, fs[k].cnt⟩ hk)
      have hx0 := HH.out.c0 _ (List.getElem_mem hk)
      obtain ⟨n1, n2, n3⟩ := HH.out.ne
      obtain ⟨p0, p1⟩ := HH.out.cells
      have hlp := HH.out.pool.lt
      have hlg := HH.out.frames.lt
      have ez : (0 : Int) ≤ (k : Int) := by omega
      have eb : (k : Int) < (fs.length : Int) := by omega
      have HMIN := hid (show (l.map (Value.int .u8)).length = Nat.min l.length l.length by rw [List.length_map]; simp [Nat.min_def])
      have HFIT := hid (show k * 4097 + o + (l.map (Value.int .u8)).length ≤ (flatF fs).length by rw [List.length_map]; have := fr_end HH.out.ok k hk; omega)
      have HON := hid (nums_one .u8 l)
      have HSRC := hid (show 0 < (l.map (Value.int .u8)).length → ∃ ad, ba = some ad ∧ ∀ j v, (l.map (Value.int .u8))[j]? = some v → w.cell? (ad.add j) = some v from fun hp => by
        rw [List.length_map] at hp
        obtain ⟨b, off, rfl, hc⟩ := HBY.out.some_of hp
        exact ⟨_, rfl, HBY.out.news⟩)
      have HDST := hid (show 0 < (l.map (Value.int .u8)).length → cutA g (k * 4097) o l.length = ⟨g, k * 4097 + o, none⟩ from fun hp => by
        rw [List.length_map] at hp
        unfold cutA; rw [if_neg (by omega)])
      clear h0 hc hw hlen hm hle
      generalize fs[k] = x at *
      have hcut := fun w => cut_at w g (k * 4097) o l.length hom
      have ew := IntWalk.wrap64_in ((o : Int) + (l.length : Int)) ⟨by omega, by omega⟩
      go_wp2_with (refine at_dst 38 rfl ?_; go_must (refine wpList_copy_in rfl _ _ 30 30 rfl 5 Tryd.underlying30 sizeU8 (some (cutA g (k * 4097) o l.length)) ba l.length l.length l.length cap rfl rfl g (k * 4097 + o) (flatF fs) 60 HH.out.frames (l.map (Value.int .u8)) HMIN.out (fun hp => ⟨by rw [HDST.out hp], HSRC.out hp⟩) HFIT.out HON.out g ?_; intro w2 hR hX; rw [HFB.out] at hR; have HR := hid hR; have HX := hid hX; clear hR hX))
      go_ret
      rw [HF.out.1, HF.out.2]
      refine ⟨rfl, ⟨?_, HR.out, HX.out.row HH.out.words (fun e => n3 e.symm) (fun e => n3 e.symm), HH.out.ok.set k HSL.out, by rw [List.length_set]; exact HH.out.n1, by rw [List.length_set]; exact HH.out.n2, by rw [List.length_set]; exact HH.out.wl, ?_, ?_⟩, HX.out.weak⟩
      · rw [List.length_set]; exact HX.out.row HH.out.pool n1 n1
      · rw [HFS.out, HWF.out]; exact HH.out.wb
      · intro y hy
        rcases List.mem_or_eq_of_mem_set hy with hy | rfl
        · exact HH.out.c0 y hy
        · exact hx0
end Go.Proofs.YtllkeeeajlgkpaaDoor
