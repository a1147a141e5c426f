
/- The reference's Store, of any frame and place. -/
import Derived.Test.YtllkeeeajlgkpaaDoorJT
import Derived.Test.YtllkeeeajlgkpaaDoorJ8
namespace Go.Proofs.YtllkeeeajlgkpaaDoor
open Go.RowKit Go.Sort

/-- Rows of other types than the reference's pool has stand. -/
def Oth (w w' : World) : Prop := ∀ g T cs, Row w g T cs → T ≠ 3 → T ≠ 30 → T ≠ 5 → Row w' g T cs
theorem Oth.refl (w : World) : Oth w w := fun _ _ _ h _ _ _ => h
theorem Oth.trans {w w' w2 : World} (h : Oth w w') (k : Oth w' w2) : Oth w w2 := fun g T cs hr h1 h2 h3 => k g T cs (h g T cs hr h1 h2 h3) h1 h2 h3
theorem Oth.of_below {w w' : World} (h : Below w.heap.size w w') : Oth w w' := fun _ _ _ hr _ _ _ => hr.below h hr.lt
theorem Oth.of_e3 {w w' : World} {base p a b : Nat} {cs : List Int} {vs : List Value} {Ls : List (List Int)} (H : RS w base p a b cs vs Ls) {X : Option Nat} (h : E3 w w' a b X) (hX : ∀ q, X = some q → ∃ ds, Row w q 5 ds) : Oth w w' := fun g T ds hr h1 h2 h3 => by
  refine h.row hr (row_tys hr H.rp.cnts h1) (row_tys hr H.rp.bys h2) (fun e => ?_)
  obtain ⟨ds', hd⟩ := hX g e.symm
  exact row_tys hr hd h3 rfl
theorem own_blk {w : World} {base E n : Nat} {v : Value} {xs : List Value} (h : w.ownsRow base E 1 v n xs) : ∀ q, v.ownBlock = some q → ∃ ds, Row w q E ds := by
  intro q hq
  rcases h.2 with ⟨rfl, _⟩ | ⟨g, cap, cur, rfl, _, hg, _⟩
  · cases hq
  · cases hq
    exact ⟨cur.toList, ⟨by simpa using hg⟩⟩
theorem holds_store {fs : List FR} {Ls : List (List Int)} (hok : FsOk fs) (hB : Holds fs Ls) (hlim : ∀ L ∈ Ls, L.length ≤ 4096) {k o : Nat} {l : List Int} (hk : k < fs.length) (hkL : k < Ls.length) (hcn : fs[k].cnt ≠ 0) (hom : o + l.length ≤ 4096) :
    Holds (fs.set k ⟨splice fs[k].bs o l, fs[k].cnt⟩) (Ls.set k (splice (upto Ls[k] (o + l.length)) o l)) := by
  intro i hi hi2 hci
  rw [List.length_set] at hi hi2
  simp only [List.getElem_set] at hci ⊢
  by_cases e : k = i
  · subst e
    rw [if_pos rfl, if_pos rfl]
    have hh := hB k hk hkL hcn
    have hl := hlim _ (List.getElem_mem hkL)
    have hu := upto_same Ls[k] (o + l.length) hom hl
    have hul : o + l.length ≤ (upto Ls[k] (o + l.length)).length := by
      by_cases c : o + l.length ≤ Ls[k].length
      · rw [upto_le c]; exact c
      · rw [upto_len _ _ (by omega)]; exact Nat.le_refl _
    show splice fs[k].bs o l = _
    rw [hh, ← hu]
    have hm := splice_mid [] (upto Ls[k] (o + l.length)) (List.replicate (4096 - (upto Ls[k] (o + l.length)).length) 0) l o hul
    rw [List.nil_append, List.nil_append, List.length_nil, Nat.zero_add] at hm
    rw [hm, length_splice _ _ _ hul]
  · rw [if_neg e] at hci
    rw [if_neg e, if_neg e]
    exact hB i hi hi2 hci
theorem cnts_store (fs : List FR) (k : Nat) (bs : List Int) (hk : k < fs.length) : cnts (fs.set k ⟨bs, fs[k].cnt⟩) = cnts fs := by
  unfold cnts
  rw [List.map_set]
  show (fs.map (·.cnt)).set k (fs[k].cnt) = _
  have : fs[k].cnt = (fs.map (·.cnt))[k]'(by simpa using hk) := by simp
  rw [this, List.set_getElem_self]

set_option maxRecDepth 100000 in
set_option maxHeartbeats 4000000 in
theorem rstoreR_any (base p a b : Nat) (fs : List FR) (vs : List Value) (Ls : List (List Int)) (f off : Int) (ba : Option Addr) (n cap : Nat) (l : List Int) (w : World) (H : RS w base p a b (cnts fs) vs Ls) (hok : FsOk fs) (h0 : ∀ x ∈ fs, 0 ≤ x.cnt) (hB : Holds fs Ls) (hN : Nums w .u8 ba n l) (hba : 0 < l.length → ∀ ad, ba = some ad → ad.block < base) (hbs : base ≤ w.heap.size) (hn : n ≤ 9223372036854775807) :
    Calls Tryd.prog 26 #[.pointer (some ⟨p, 0, none⟩), .int .i64 f, .int .i64 off, .slice ba n cap] w fun e w' => e = .returned (.int .i64 (loadE fs f off n)) ∧ ∃ vs' Ls', RS w' base p a b (cnts (storeS fs f off l)) vs' Ls' ∧ Holds (storeS fs f off l) Ls' ∧ Oth w w' ∧ Below base w w' ∧ (∃ X, E3 w w' a b X ∧ (∀ q, X = some q → OldB vs q)) ∧ (∀ i (h : i < vs'.length) q, vs'[i].ownBlock = some q → OldB vs q ∨ w.heap.size ≤ q) := by
  obtain rfl := hN.hlen
  have HH := hid H
  have HL := hid (rtaken_any p a b (cnts fs) vs f w H.rp)
  rw [rtk_tak h0] at HL
  have HBY := hid hB
  by_cases ht : takE fs f = 0
  · by_cases hbad : off < 0 ∨ 4096 < off ∨ 4096 - off < (l.length : Int)
    · have HF := hid (show loadE fs f off l.length = 1 ∧ storeS fs f off l = fs by
        have hw : withinB off l.length = false := within_no (by omega)
        unfold storeS loadE
        rw [ht, hw]
        exact ⟨rfl, rfl⟩)
      have q1 : (takE fs f == 0) = true := by simpa using ht
      rw [q1] at HL
      clear q1 ht H hok hB h0
      by_cases c1 : off < 0
      · have d1 : decide (off < 0) = true := decide_eq_true c1
        clear hbad c1
        go_enter Tryd.func26, Tryd.ntmps26
        go_wp2_with fail
        refine (HL.out).mono ?_
        rintro e' w' ⟨rfl, rfl⟩
        go_wp2_with fail
        go_ret
        rw [HF.out.1]
        exact ⟨rfl, vs, Ls, by rw [HF.out.2]; exact HH.out, by rw [HF.out.2]; exact HBY.out, Oth.refl _, Below.refl _ _, ⟨none, E3.refl _ _ _ _, fun q e => by cases e⟩, fun i hi q e => .inl ⟨i, hi, e⟩⟩
      · have d1 : decide (off < 0) = false := decide_eq_false c1
        by_cases c3 : 4096 < off
        · have d3 : decide (4096 < off) = true := decide_eq_true c3
          clear hbad c3
          go_enter Tryd.func26, Tryd.ntmps26
          go_wp2_with fail
          refine (HL.out).mono ?_
          rintro e' w' ⟨rfl, rfl⟩
          go_wp2_with fail
          go_ret
          rw [HF.out.1]
          exact ⟨rfl, vs, Ls, by rw [HF.out.2]; exact HH.out, by rw [HF.out.2]; exact HBY.out, Oth.refl _, Below.refl _ _, ⟨none, E3.refl _ _ _ _, fun q e => by cases e⟩, fun i hi q e => .inl ⟨i, hi, e⟩⟩
        · have d3 : decide (4096 < off) = false := decide_eq_false c3
          have d4 : decide (4096 - off < (l.length : Int)) = true := decide_eq_true (by omega)
          have ew := IntWalk.wrap64_in (4096 - off) ⟨by omega, by omega⟩
          clear hbad
          go_enter Tryd.func26, Tryd.ntmps26
          go_wp2_with fail
          refine (HL.out).mono ?_
          rintro e' w' ⟨rfl, rfl⟩
          go_wp2_with fail
          go_ret
          rw [HF.out.1]
          exact ⟨rfl, vs, Ls, by rw [HF.out.2]; exact HH.out, by rw [HF.out.2]; exact HBY.out, Oth.refl _, Below.refl _ _, ⟨none, E3.refl _ _ _ _, fun q e => by cases e⟩, fun i hi q e => .inl ⟨i, hi, e⟩⟩
    · obtain ⟨o, rfl⟩ := Int.eq_ofNat_of_zero_le (show 0 ≤ off by omega)
      have hom : o + l.length ≤ 4096 := by omega
      have hcz : cntF fs f ≠ 0 := fun e => by unfold takE at ht; rw [if_pos e] at ht; exact absurd ht (by decide)
      obtain ⟨k, hk, rfl, hc⟩ := cnt_is hcz
      have hcn : fs[k].cnt ≠ 0 := fun e => hcz (by rw [hc]; exact e)
      have hw : withinB (o : Int) (l.length : Int) = true := by unfold withinB; simp; omega
      have hcl : (cnts fs).length = fs.length := List.length_map _
      have hvl : vs.length = fs.length := by rw [H.rp.vl]; exact hcl
      have hkv : k < vs.length := by omega
      have hkL : k < Ls.length := by have := H.ll; omega
      have hle : loadE fs k o l.length = 0 := by unfold loadE; rw [ht, hw]; rfl
      have hst : storeS fs k o l = fs.set k ⟨splice fs[k].bs o l, fs[k].cnt⟩ := by unfold storeS; rw [hle, if_pos rfl, Int.toNat_natCast, Int.toNat_natCast, getF_at _ _ _ hk]
      refine (rstore_any base p a b fs vs Ls k o ba l.length cap l w H h0 hk hcn hom hN hbs hkv hkL hba).mono ?_
      rintro e' w' ⟨rfl, vs', hvl', hrs, he3, hal⟩
      rw [hle, hst]
      refine ⟨rfl, vs', _, by rw [cnts_store fs k _ hk]; exact hrs, holds_store hok hB H.lim hk hkL hcn hom, Oth.of_e3 H he3 (own_blk (H.own k hkv hkL)), he3.below (Below.refl base w) H.aB H.bB (fun q e => own_low (H.own k hkv hkL) (Nat.le_refl _) q e) hbs, ⟨_, he3, fun q e => ⟨k, hkv, e⟩⟩, hal⟩
  · have HF := hid (show loadE fs f off l.length = 1 ∧ storeS fs f off l = fs by unfold storeS loadE; rw [if_neg ht]; exact ⟨rfl, rfl⟩)
    have q1 : (takE fs f == 0) = false := by simpa using ht
    rw [q1] at HL
    clear q1 ht H hok hB h0
    go_enter Tryd.func26, Tryd.ntmps26
    go_wp2_with fail
    refine (HL.out).mono ?_
    rintro e' w' ⟨rfl, rfl⟩
    go_wp2_with fail
    go_ret
    rw [HF.out.1]
    exact ⟨rfl, vs, Ls, by rw [HF.out.2]; exact HH.out, by rw [HF.out.2]; exact HBY.out, Oth.refl _, Below.refl _ _, ⟨none, E3.refl _ _ _ _, fun q e => by cases e⟩, fun i hi q e => .inl ⟨i, hi, e⟩⟩
end Go.Proofs.YtllkeeeajlgkpaaDoor
