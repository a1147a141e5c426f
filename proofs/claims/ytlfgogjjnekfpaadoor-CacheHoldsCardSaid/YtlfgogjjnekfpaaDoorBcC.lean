
/- cache.New, Pool, Files; nil caches; hostellaw08.works. -/
import Derived.Test.YtlfgogjjnekfpaaDoorBcB
import Derived.LaidEqlPtr
namespace Go.Proofs.YtlfgogjjnekfpaaDoor
open Go.RowKit Go.Sort Go.Shelf Go.WideMaps Go.Maps Go.WideShapes Go.WideElems Go.MapKept Go.ChangeMaps
attribute [local go_sem] Oper.semAt_some

set_option maxRecDepth 100000 in
set_option maxHeartbeats 4000000 in
theorem cnew_any (F : Nat) (t : FT) (p g h : Nat) (fs : List FR) (ws : List Nat) (w0 w : World) (hf : FSat w0 F t) (hl : Below w0.heap.size w0 w) (hp : Pl w p g h fs ws) (hg : w0.heap.size ≤ g) (hh : w0.heap.size ≤ h) (ht : Tb w0) :
    Calls Tryd.prog 14 #[.pointer (some ⟨p, 0, none⟩), .pointer (some ⟨F, 0, none⟩)] w fun e w' => ∃ c m, e = .returned (.tuple #[.pointer (some ⟨c, 0, none⟩), .int .i64 0]) ∧ CW w0 F t p g h c m ⟨fs, [], 0⟩ ws w' ∧ Below w.heap.size w w' ∧ w.heap.size ≤ c ∧ w.heap.size ≤ m := by
  have hmm := @run_makeMap Tryd.prog
  have HCW := hid (show CW w0 F t p g h (w.heap.size + 1) w.heap.size ⟨fs, [], 0⟩ ws ((w.alloc (.map #[] 0)).alloc (.cells #[.pointer (some ⟨p, 0, none⟩), .pointer (some ⟨F, 0, none⟩), .map (some w.heap.size), .int .u64 0] 74)) from by
    have hb : Below w.heap.size w ((w.alloc (.map #[] 0)).alloc (.cells #[.pointer (some ⟨p, 0, none⟩), .pointer (some ⟨F, 0, none⟩), .map (some w.heap.size), .int .u64 0] 74)) := bthen (bal _) (bal _)
    have hs := hl.size
    refine ⟨?_, hp.below hb, (CM.made w).below (bal _), hf, hl.trans (hb.mono hs), hg, hh, by omega, by omega, by show 0 < 1000000000; omega, ht⟩
    have := Row.new (w.alloc (.map #[] 0)) 74 [.pointer (some ⟨p, 0, none⟩), .pointer (some ⟨F, 0, none⟩), .map (some w.heap.size), .int .u64 0]
    rw [World.size_alloc] at this
    exact this)
  clear hf hl hp hg hh ht
  go_enter Tryd.func14, Tryd.ntmps14
  go_wp2_with fail
  go_ret2
  exact ⟨w.heap.size + 1, w.heap.size, rfl, HCW.out, bthen (bal _) (bal _), by omega, Nat.le_refl _⟩
set_option maxRecDepth 100000 in
set_option maxHeartbeats 4000000 in
theorem cpool_any (c : Nat) (a b d e : Value) (w : World) (h : Row w c 74 [a, b, d, e]) : Calls Tryd.prog 16 #[.pointer (some ⟨c, 0, none⟩)] w fun r w' => r = .returned a ∧ w = w' := by
  obtain ⟨c0, c1, c2, c3⟩ := h.four
  have hlc := h.lt
  clear h
  go_enter Tryd.func16, Tryd.ntmps16
  go_wp2_with fail
  go_ret
  exact ⟨rfl, rfl⟩
set_option maxRecDepth 100000 in
set_option maxHeartbeats 4000000 in
theorem cfiles_any (c : Nat) (a b d e : Value) (w : World) (h : Row w c 74 [a, b, d, e]) : Calls Tryd.prog 17 #[.pointer (some ⟨c, 0, none⟩)] w fun r w' => r = .returned b ∧ w = w' := by
  obtain ⟨c0, c1, c2, c3⟩ := h.four
  have hlc := h.lt
  clear h
  go_enter Tryd.func17, Tryd.ntmps17
  go_wp2_with fail
  go_ret
  exact ⟨rfl, rfl⟩

/-- A pool of free frames. -/
theorem good0 (rd : Int → Int → List UInt8 × Int) (n : Nat) : Good rd ⟨List.replicate n fr0, [], 0⟩ [] :=
  ⟨fun f hf => by simp only [List.getElem_replicate]; rfl, List.Pairwise.nil, List.Pairwise.nil, fun x h => (by cases h), fun x h => (by cases h), List.Pairwise.nil, fun f h => (by cases h), Nat.le_refl _, fun x h => by
    rw [(List.mem_replicate.1 h).2]
    exact List.length_replicate, fun x h => (by cases h), fun x h => (by cases h)⟩

def xsW8 (M : Nat) : List EN := [⟨[47, 97], 1, 420, 0, 0, some ⟨M, 0, none⟩, 1, [7], []⟩]
def LW8 : List ND := [⟨[47], 0, 2, 493, 0, 0, 0, [([97], 1)], [], []⟩, ⟨[47, 97], 0, 1, 420, 0, 0, 1, [], [7], []⟩]
theorem newW8 (M : Nat) : newE [root0] 0 (xsW8 M) = (0, 0, LW8) := by kernel_rfl
theorem rdW8 : rdP16 LW8 1 0 = ([7], 0) := by kernel_rfl
def sW8 : CC := ⟨(List.replicate 2 fr0).set 0 ⟨[7] ++ List.replicate 4095 0, 1⟩, [⟨1, 0, 0, 1⟩], 1⟩
theorem getW8 : getC (rdP16 LW8) ⟨List.replicate 2 fr0, [], 0⟩ 1 0 = (0, 0, sW8) := by
  have hl : lowR (List.replicate 2 fr0) = some 0 := low_some (by rfl) (fun j hj => by omega)
  have ht : takC ⟨List.replicate 2 fr0, [], 0⟩ = (((0 : Nat) : Int), 0, ⟨(List.replicate 2 fr0).set 0 one0, [], 0⟩) := takC_free (s := ⟨List.replicate 2 fr0, [], 0⟩) hl
  have hT : Taken ⟨List.replicate 2 fr0, [], 0⟩ ⟨(List.replicate 2 fr0).set 0 one0, [], 0⟩ [] 0 := by
    rcases takC_case (good0 (rdP16 LW8) 2) with ⟨k, s', h1, h2⟩ | ⟨h1, _⟩
    · rw [ht] at h1
      have e1 : (0 : Int) = (k : Int) := congrArg Prod.fst h1
      have e2 := congrArg (fun x : Int × Int × CC => x.2.2) h1
      simp only at e2
      obtain rfl : k = 0 := by omega
      rw [e2]
      exact h2
    · rw [ht] at h1
      cases h1
  have hf := filC_ok ht hT [7] (by decide)
  unfold getC
  rw [if_neg (by omega), rdW8, if_neg (by simp)]
  show (match filC ⟨List.replicate 2 fr0, [], 0⟩ [7] with
    | (f, e, s1) => if e = 0 then (f, 0, { s1 with sl := strikeS s1.sl 1 0 ++ [⟨1, 0, f, (s1.tn : Int) + 1⟩], tn := s1.tn + 1 }) else (0, e, s1)) = ((0 : Int), (0 : Int), sW8)
  rw [hf]
  dsimp only
  rw [if_pos rfl]
  simp only [List.set_set]
  rfl
theorem neq_same {P : Program} (w : World) {tp te : TypeId} {j : TypeInfo} (a : Addr) (hp : P.underlying tp = some (.pointer te)) (hte : P.info? te = some j) :
    (binOp .neq tp (.pointer (some a)) (.pointer (some a))).run P w = .ok (.bool false) w := by
  have h : ∀ d : Nat, (Op.equalIn (d + 1) tp (.pointer (some a)) (.pointer (some a))).run P w = .ok true w := fun d => by
    simp [Op.equalIn, run_underlying hp, sizeOf, typeInfo, hte, run_sameAddr_same]
  simp only [binOp]
  simp [Op.equal, Op.maxDepth, h 9999]
theorem some_of_isSome {α : Type} {o : Option α} (h : o.isSome = true) : ∃ j, o = some j := by
  cases o with
  | none => cases h
  | some j => exact ⟨j, rfl⟩
theorem neq_pool (w : World) (p : Nat) : (binOp .neq 27 (.pointer (some ⟨p, 0, none⟩)) (.pointer (some ⟨p, 0, none⟩))).run Tryd.prog w = .ok (.bool false) w := by
  obtain ⟨j, hj⟩ := some_of_isSome (show (Tryd.prog.info? 86).isSome = true by kernel_rfl)
  exact neq_same w _ Tryd.underlying27 hj
theorem neq_fs (w : World) (p : Nat) : (binOp .neq 30 (.pointer (some ⟨p, 0, none⟩)) (.pointer (some ⟨p, 0, none⟩))).run Tryd.prog w = .ok (.bool false) w := by
  obtain ⟨j, hj⟩ := some_of_isSome (show (Tryd.prog.info? 92).isSome = true by kernel_rfl)
  exact neq_same w _ Tryd.underlying30 hj
set_option maxRecDepth 100000 in
set_option maxHeartbeats 8000000 in
theorem works08_any (w : World) (hT : Tb w) : Calls Tryd.prog 18 #[] w fun e w' => e = .returned (.bool true) ∧ Below w.heap.size w w' := by
  have b1 : Below w.heap.size w (w.alloc (.cells (([7] : List UInt8).map B8).toArray 5)) := bal _
  have b2 := b1.alloc b1.size (.cells (((xsW8 w.heap.size).map EN.cs).flatten).toArray 99)
  have hd := (Row.new w 5 (([7] : List UInt8).map B8)).alloc (.cells (((xsW8 w.heap.size).map EN.cs).flatten).toArray 99)
  have hr := Row.new (w.alloc (.cells (([7] : List UInt8).map B8).toArray 5)) 99 (((xsW8 w.heap.size).map EN.cs).flatten)
  rw [World.size_alloc] at hr
  have hents := ents_of hr (by
    intro x hx
    simp only [xsW8, List.mem_cons, List.not_mem_nil, or_false] at hx
    subst hx
    refine ⟨?_, fun h => (by cases h), by dsimp only; decide, by dsimp only; decide, by dsimp only; decide, by dsimp only; decide⟩
    exact Row.byt (l := [7]) (rest := []) (by rw [List.append_nil]; exact hd) rfl)
  have HN := hid (new_any _ 1 1 (xsW8 w.heap.size) _ hents (by omega))
  have HB := hid b2
  have HT := hid hT
  clear b1 b2 hd hr hents hT
  go_enter Tryd.func18, Tryd.ntmps18
  go_wp2_with fail
  refine (HN.out).mono ?_
  rintro e' w1 ⟨hb, hp⟩
  rw [if_neg (by show ¬ 64 < 1; omega), newW8, if_pos rfl] at hp
  obtain ⟨F, t, rfl, htl, hfs, hF⟩ := hp
  obtain ⟨L, bs, ms⟩ := t
  obtain rfl : L = LW8 := htl
  have HB1 := hid (HB.out.trans (hb.mono HB.out.size))
  have HF1 := hid hfs
  have HPN := hid (poolNew_any 2 w1 (by omega) (by omega))
  clear hb hfs HN HB
  go_wp2_with fail
  refine (HPN.out).mono ?_
  rintro e' w2 ⟨p, g, h, ws, rfl, hpl, hp1, hg1, hh1, hb⟩
  have HB2 := hid hb
  have HT1 := hid (show Tb w1 from fun j hj => St.cell (HT.out j hj) HB1.out)
  have HCN := hid (cnew_any F ⟨LW8, bs, ms⟩ p g h (List.replicate 2 fr0) ws w1 w2 HF1.out hb hpl hg1 hh1 HT1.out)
  clear hpl hp1 hg1 hh1 hb
  go_wp2_with fail
  refine (HCN.out).mono ?_
  rintro e' w3 ⟨c, m, rfl, hcw, hb, hc1, hm1⟩
  have HCW := hid hcw
  have HB3 := hid hb
  have HPO := hid (cpool_any c _ _ _ _ w3 hcw.cache)
  have HFI := hid (cfiles_any c _ _ _ _ w3 hcw.cache)
  have HGE := hid (get_any w1 F ⟨LW8, bs, ms⟩ p g h c m ⟨List.replicate 2 fr0, [], 0⟩ ws [] 1 0 w3 hcw (good0 _ 2) (by simp) (by simp) ⟨by omega, by omega⟩ ⟨by omega, by omega⟩)
  rw [show (FT.mk LW8 bs ms).L = LW8 from rfl, getW8] at HGE
  have hq1 := neq_pool w3 p
  have hq2 := neq_fs w3 F
  clear hcw hb hc1 hm1
  go_wp2_with fail
  refine (HPO.out).mono ?_
  rintro e' w4 ⟨rfl, rfl⟩
  go_wp2_with fail
  refine (HFI.out).mono ?_
  rintro e' w5 ⟨rfl, rfl⟩
  go_wp2_with fail
  refine (HGE.out).mono ?_
  rintro e' w6 ⟨rfl, ⟨ws6, hc6⟩, he6⟩
  have HC6 := hid hc6
  have HE6 := hid he6
  have HLD := hid (load_any p g h sW8.fs ws6 0 0 2 w6 hc6.pool)
  have HCT := hid (fun (ww : World) (hb : Below w6.heap.size w6 ww) => count_any p g h sW8.fs ws6 0 ww (hc6.below hb).pool)
  have HG6 := hid (show Good (rdP16 LW8) sW8 [] from by
    rcases getC_case (good0 (rdP16 LW8) 2) 1 0 (rdP16_len LW8) with ⟨e, h1, h2, _⟩ | ⟨k, s', h1, h2⟩
    · rw [getW8] at h1
      cases h1
    · rw [getW8] at h1
      have e2 : sW8 = s' := congrArg (fun x : Int × Int × CC => x.2.2) h1
      rw [e2]
      exact h2.good)
  have HSL := hid (fun (ww : World) (hb : Below w6.heap.size w6 ww) => slots_any w1 F ⟨LW8, bs, ms⟩ p g h c m sW8 ws6 (rdP16 LW8) [] ww (hc6.below hb) HG6.out)
  rw [show cntF sW8.fs 0 = 1 by kernel_rfl] at HCT
  rw [show loadE sW8.fs 0 0 2 = 0 by kernel_rfl, show loadL sW8.fs 0 0 2 = [7, 0] by kernel_rfl] at HLD
  clear hc6 he6
  go_wp2_with fail
  refine (HLD.out).mono ?_
  rintro e' w7 ⟨v, rfl, ho, hb⟩
  obtain ⟨va, vc, rfl, hcl, _, _, _⟩ := own_cel ho
  obtain ⟨vb, vo, rfl, hcc⟩ := hcl.some_of (by simp)
  have x0 := hcc 0 (by simp)
  have x1 := hcc 1 (by simp)
  simp only [List.map_cons, List.map_nil, List.getElem_cons_zero, List.getElem_cons_succ, Nat.add_zero] at x0 x1
  have HX0 := hid x0
  have HX1 := hid x1
  have HB7 := hid hb
  clear ho hb hcl hcc x0 x1
  go_wp2_with fail
  refine (HSL.out w7 HB7.out).mono ?_
  rintro e' w8 ⟨v, l, rfl, hp, _, ho, hb⟩
  have hl1 : l = [⟨1, 0, 0, 1⟩] := List.perm_singleton.1 hp
  subst hl1
  obtain ⟨g8, cap8, cur8, e8, hb8, hg8, hnc8, hcm8, hcs8, ht8⟩ : ∃ g cap cur, v = .slice (some ⟨g, 0, none⟩) 1 cap ∧ w7.heap.size ≤ g ∧ w8.heap[g]? = some (.cells cur 57 (0, 0)) ∧ 1 ≤ cap ∧ cap ≤ maxLen ∧ cur.size = cap * 3 ∧ cur.toList.take (1 * 3) = [.int .i64 1, .int .i64 0, .int .i64 0] := by
    rcases ho.2 with ⟨_, h0⟩ | h1
    · cases h0
    · exact h1
  subst e8
  have y0 : w8.cell? ⟨g8, 0, none⟩ = some (.int .i64 1) := by
    unfold World.cell?
    simp only [hg8]
    have := congrArg (fun l : List Value => l[0]?) ht8
    simpa using this
  have y2 : w8.cell? ⟨g8, 2, none⟩ = some (.int .i64 0) := by
    unfold World.cell?
    simp only [hg8]
    have := congrArg (fun l : List Value => l[2]?) ht8
    simpa using this
  have x0 := St.cell HX0.out hb
  have x1 := St.cell HX1.out hb
  have HB8 := hid hb
  have hz8 : (1 : Nat) ≤ cap8 := hnc8
  clear ho hp hb hb8 hg8 hcs8 ht8
  have HCN8 := hid (HCT.out w8 (HB7.out.trans (HB8.out.mono HB7.out.size)))
  go_wp2_with fail
  refine (HCN8.out).mono ?_
  rintro e' w9 ⟨rfl, rfl⟩
  go_wp2_with fail
  go_ret
  have h13 := HB2.out.trans (HB3.out.mono HB2.out.size)
  have h16 := HE6.out.below h13 (fun k hk => by
    have h1 := HC6.out.lg; have h2 := HC6.out.lh; have h3 := HC6.out.lc; have h4 := HC6.out.lm
    rcases hk with rfl | rfl | rfl | rfl <;> assumption) h13.size
  have h17 := h16.trans (HB7.out.mono h16.size)
  exact ⟨rfl, HB1.out.trans (Below.mono (h17.trans (HB8.out.mono h17.size)) HB1.out.size)⟩
end Go.Proofs.YtlfgogjjnekfpaaDoor
