
/- Both pools side by side, with their bytes: what each call of one leaves of the other. -/
import Derived.Test.YtllkeeeajlgkpaaDoorJX
import Derived.Test.YtllkeeeajlgkpaaDoorJE
namespace Go.Proofs.YtllkeeeajlgkpaaDoor
open Go.RowKit Go.Sort

theorem cnt_at {fs : List FR} {f : Int} (h : cntF fs f ≠ 0) : ∃ k : Nat, ∃ hk : k < fs.length, f = (k : Int) ∧ cntF fs f = fs[k].cnt ∧ fs[k].cnt ≠ 0 := by
  obtain ⟨k, hk, e1, e2⟩ := cnt_is h
  exact ⟨k, hk, e1, e2, fun e => h (by rw [e2]; exact e)⟩
theorem rtk_zero {fs : List FR} (h0 : ∀ x ∈ fs, 0 ≤ x.cnt) (f : Int) : (if rtk (cnts fs) f then (0 : Int) else 1) = takE fs f := by
  rw [rtk_tak h0]
  unfold takE
  by_cases c : cntF fs f = 0
  · rw [if_pos c]; rfl
  · rw [if_neg c]; rfl
theorem cnts_up {fs : List FR} (h0 : ∀ x ∈ fs, 0 ≤ x.cnt) (f : Int) : rupS (cnts fs) f 1 = cnts (upS fs f) := by
  unfold rupS upS
  rw [rtk_tak h0, show rcnt (cnts fs) f = cntF fs f from rcnt_map fs f]
  unfold takE cnts
  by_cases c : cntF fs f = 0
  · rw [if_pos c, if_pos c]; rfl
  · rw [if_neg c, if_neg c, List.map_set]; rfl
theorem cnts_down {fs : List FR} (h0 : ∀ x ∈ fs, 0 ≤ x.cnt) (f : Int) : rupS (cnts fs) f (-1) = cnts (downS fs f) := by
  unfold rupS downS
  rw [rtk_tak h0, show rcnt (cnts fs) f = cntF fs f from rcnt_map fs f]
  unfold takE cnts
  by_cases c : cntF fs f = 0
  · rw [if_pos c, if_pos c]; rfl
  · rw [if_neg c, if_neg c, List.map_set]; rfl
/-- A count turned: what a taken frame holds stands. -/
theorem holds_turn {fs : List FR} {Ls : List (List Int)} (hB : Holds fs Ls) {k : Nat} (hk : k < fs.length) (hc : fs[k].cnt ≠ 0) (c : Int) : Holds (fs.set k ⟨fs[k].bs, c⟩) Ls := by
  intro i hi hi2 hci
  rw [List.length_set] at hi
  simp only [List.getElem_set] at hci ⊢
  by_cases e : k = i
  · subst e
    rw [if_pos rfl]
    exact hB k hk hi2 hc
  · rw [if_neg e] at hci
    rw [if_neg e]
    exact hB i hi hi2 hci
theorem holds_up {fs : List FR} {Ls : List (List Int)} (hB : Holds fs Ls) (f : Int) : Holds (upS fs f) Ls := by
  unfold upS
  by_cases c : cntF fs f = 0
  · rw [if_pos c]; exact hB
  · rw [if_neg c]
    obtain ⟨k, hk, rfl, _, hc⟩ := cnt_at c
    rw [Int.toNat_natCast, getF_at _ _ _ hk]
    exact holds_turn hB hk hc _
theorem holds_down {fs : List FR} {Ls : List (List Int)} (hB : Holds fs Ls) (f : Int) : Holds (downS fs f) Ls := by
  unfold downS
  by_cases c : cntF fs f = 0
  · rw [if_pos c]; exact hB
  · rw [if_neg c]
    obtain ⟨k, hk, rfl, _, hc⟩ := cnt_at c
    rw [Int.toNat_natCast, getF_at _ _ _ hk]
    exact holds_turn hB hk hc _
theorem holds_take {fs : List FR} {Ls : List (List Int)} (hB : Holds fs Ls) : Holds (takeS fs) (takeLs fs Ls) := by
  unfold takeS takeLs
  cases hl : lowR fs with
  | none => exact hB
  | some k =>
    intro i hi hi2 hci
    simp only [List.length_set] at hi hi2
    simp only [List.getElem_set] at hci ⊢
    by_cases e : k = i
    · rw [if_pos e, if_pos e]; rfl
    · rw [if_neg e] at hci
      rw [if_neg e, if_neg e]
      exact hB i hi hi2 hci

/-- Both pools: the program's frames are fs2, the reference's fs. -/
structure Md (w0 w : World) (n : Nat) (K : Int) (p g h q a b : Nat) (fs fs2 : List FR) (ws : List Nat) (vs : List Value) (Ls : List (List Int)) : Prop where
  pd : Played w0 w n K p g h fs2 ws
  rs : RS w w0.heap.size q a b (cnts fs) vs Ls
  hd : Holds fs Ls
  ok : FsOk fs
  h0 : ∀ x ∈ fs, 0 ≤ x.cnt
section
variable {w0 w w2 : World} {n : Nat} {K K2 : Int} {p g h q a b : Nat} {fs fs2 fs3 : List FR} {ws ws2 : List Nat} {vs vs2 : List Value} {Ls Ls2 : List (List Int)}
theorem Md.still (H : Md w0 w n K p g h q a b fs fs2 ws vs Ls) (hb : Below w.heap.size w w2) : Md w0 w2 n K p g h q a b fs fs2 ws vs Ls :=
  ⟨H.pd.still hb, H.rs.below hb, H.hd, H.ok, H.h0⟩
theorem Md.size (H : Md w0 w n K p g h q a b fs fs2 ws vs Ls) : w0.heap.size ≤ w.heap.size := H.pd.below.size
/-- A call of the program's. -/
theorem Md.prog (H : Md w0 w n K p g h q a b fs fs2 ws vs Ls) (hp : Pl w2 p g h fs3 ws2) (hx : Ex w w2 g h) (hb : Bd K2 fs3 ∧ fs3.length = fs2.length) : Md w0 w2 n K2 p g h q a b fs fs3 ws2 vs Ls :=
  ⟨H.pd.step hp hx hb, H.rs.ex hx H.pd.pl.frames H.pd.pl.words (by decide) (by decide), H.hd, H.ok, H.h0⟩
/-- The reference's call that follows it. -/
theorem Md.refr (H : Md w0 w n K p g h q a b fs fs2 ws vs Ls) (hr : RS w2 w0.heap.size q a b (cnts fs2) vs2 Ls2) (hh : Holds fs2 Ls2) (ho : Oth w w2) (hb : Below w0.heap.size w w2) : Md w0 w2 n K p g h q a b fs2 fs2 ws vs2 Ls2 :=
  ⟨⟨⟨ho _ _ _ H.pd.pl.pool (by decide) (by decide) (by decide), ho _ _ _ H.pd.pl.frames (by decide) (by decide) (by decide), ho _ _ _ H.pd.pl.words (by decide) (by decide) (by decide), H.pd.pl.ok, H.pd.pl.n1, H.pd.pl.n2, H.pd.pl.wl, H.pd.pl.wb, H.pd.pl.c0⟩, H.pd.len, H.pd.bd, H.pd.pB, H.pd.gB, H.pd.hB, H.pd.below.trans hb⟩, hr, hh, H.pd.pl.ok, H.pd.pl.c0⟩
theorem Md.refr3 (H : Md w0 w n K p g h q a b fs fs2 ws vs Ls) (hr : RS w2 w0.heap.size q a b (cnts fs2) vs2 Ls2) (hh : Holds fs2 Ls2) (hx : E3 w w2 a b none) : Md w0 w2 n K p g h q a b fs2 fs2 ws vs2 Ls2 :=
  H.refr hr hh (Oth.of_e3 H.rs hx (fun q e => by cases e)) (hx.below (Below.refl _ w) H.rs.aB H.rs.bB (fun q e => by cases e) H.size)
theorem Md.max (H : Md w0 w n K p g h q a b fs fs2 ws vs Ls) (hK : K < 9223372036854775807) : ∀ x ∈ fs2, x.cnt < 9223372036854775807 := H.pd.max hK
theorem Md.maxC (H : Md w0 w n K p g h q a b fs fs ws vs Ls) (hK : K < 9223372036854775807) : ∀ c ∈ cnts fs, c < 9223372036854775807 := fun c hc => by
  obtain ⟨x, hx, rfl⟩ := List.mem_map.1 hc
  exact H.max hK x hx
end

/-- New of both, with all that the plays want of it. -/
theorem begunR_any (n : Nat) (w : World) (h1 : 1 ≤ n) (h2 : n ≤ 1024) :
    Calls Tryd.prog 6 #[.int .i64 (n : Int)] w fun e w' => ∃ p g h q a b ws, e = .returned (.tuple #[.pointer (some ⟨p, 0, none⟩), .pointer (some ⟨q, 0, none⟩), .bool true]) ∧ Md w w' n 0 p g h q a b (List.replicate n fr0) (List.replicate n fr0) ws (sZ n) (List.replicate n []) := by
  go_enter Tryd.func6, Tryd.ntmps6
  go_wp2_with fail
  refine (new_any n w h1 h2).mono ?_
  rintro e' w1 ⟨p, g, h, ws, rfl, hpl, hp, hg, hh, hb⟩
  have HP := hid (show Played w w1 n 0 p g h (List.replicate n fr0) ws from ⟨hpl, List.length_replicate, (fun x hx => by rw [List.eq_of_mem_replicate hx]; exact Int.le_refl _), hp, hg, hh, hb⟩)
  have hs := hb.size
  clear hpl hb
  go_wp2_with fail
  refine (rnew_any n w1 h1 h2).mono ?_
  rintro e' w2 ⟨q, a, b, rfl, hrp, hq, ha, hb', hb⟩
  have HP2 := hid (HP.out.still hb)
  have HR := hid (show RS w2 w.heap.size q a b (cnts (List.replicate n fr0)) (sZ n) (List.replicate n []) from ⟨by unfold cnts; rw [List.map_replicate]; exact hrp, by simp [sZ], (fun i h h2 => by simp only [sZ, List.getElem_replicate]; exact own_nil_of), (fun i j hi hj _ q' hq' => by simp only [sZ, List.getElem_replicate] at hq'; cases hq'), (fun c hc => by unfold cnts at hc; rw [List.map_replicate] at hc; rw [List.eq_of_mem_replicate hc]; exact Int.le_refl _), (fun L hL => by rw [List.eq_of_mem_replicate hL]; exact Nat.zero_le _), by omega, by omega, by omega⟩)
  have HH := hid (show Holds (List.replicate n fr0) (List.replicate n ([] : List Int)) from fun k hk h2 hc => by rw [List.getElem_replicate] at hc; exact absurd rfl hc)
  clear hrp hb
  go_wp2_with fail
  refine bodyPost_ret (v := .tuple #[.pointer (some ⟨p, 0, none⟩), .pointer (some ⟨q, 0, none⟩), .bool true]) (by simp [results, Tryd.results6, go_sem]) rfl ?_
  exact ⟨p, g, h, q, a, b, ws, rfl, HP2.out, HR.out, HH.out, HP2.out.pl.ok, HP2.out.pl.c0⟩
end Go.Proofs.YtllkeeeajlgkpaaDoor
