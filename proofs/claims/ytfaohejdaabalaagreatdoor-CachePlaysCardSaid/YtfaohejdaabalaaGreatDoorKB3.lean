
/- Merged: BcC BcD BcE BcFp BcH BcI BcJp BcO. -/
import Derived.Test.YtfaohejdaabalaaGreatDoorBcB
import Derived.LaidEqlPtr
import Derived.Maps.AppendAt
import Derived.BigQuiet
namespace Go.Proofs.YtfaohejdaabalaaGreatDoor
open Go.RowKit Go.Sort Go.Shelf Go.WideMaps Go.Maps Go.WideShapes Go.WideElems Go.MapKept Go.ChangeMaps
attribute [local go_sem] Oper.semAt_some

set_option maxRecDepth 100000 in
set_option maxHeartbeats 4000000 in
theorem cnew_any (F : Nat) (t : FT) (p g h : Nat) (fs : List FR) (ws : List Nat) (w0 w : World) (hf : FSat w0 F t) (hl : Below w0.heap.size w0 w) (hp : Pl w p g h fs ws) (hg : w0.heap.size ≤ g) (hh : w0.heap.size ≤ h) (ht : Tb w0) :
    Calls Tryz.prog 13 #[.pointer (some ⟨p, 0, none⟩), .pointer (some ⟨F, 0, none⟩)] w fun e w' => ∃ c m, e = .returned (.tuple #[.pointer (some ⟨c, 0, none⟩), .int .i64 0]) ∧ CW w0 F t p g h c m ⟨fs, [], 0⟩ ws w' ∧ Below w.heap.size w w' ∧ w.heap.size ≤ c ∧ w.heap.size ≤ m := by
  have hmm := @run_makeMap Tryz.prog
  have HCW := hid (show CW w0 F t p g h (w.heap.size + 1) w.heap.size ⟨fs, [], 0⟩ ws ((w.alloc (.map #[] 0)).alloc (.cells #[.pointer (some ⟨p, 0, none⟩), .pointer (some ⟨F, 0, none⟩), .map (some w.heap.size), .int .u64 0] 104)) from by
    have hb : Below w.heap.size w ((w.alloc (.map #[] 0)).alloc (.cells #[.pointer (some ⟨p, 0, none⟩), .pointer (some ⟨F, 0, none⟩), .map (some w.heap.size), .int .u64 0] 104)) := bthen (bal _) (bal _)
    have hs := hl.size
    refine ⟨?_, hp.below hb, (CM.made w).below (bal _), hf, hl.trans (hb.mono hs), hg, hh, by omega, by omega, by show 0 < 1000000000; omega, ht⟩
    have := Row.new (w.alloc (.map #[] 0)) 104 [.pointer (some ⟨p, 0, none⟩), .pointer (some ⟨F, 0, none⟩), .map (some w.heap.size), .int .u64 0]
    rw [World.size_alloc] at this
    exact this)
  clear hf hl hp hg hh ht
  go_enter Tryz.func13, Tryz.ntmps13
  go_wp2_with fail
  go_ret2
  exact ⟨w.heap.size + 1, w.heap.size, rfl, HCW.out, bthen (bal _) (bal _), by omega, Nat.le_refl _⟩
set_option maxRecDepth 100000 in
set_option maxHeartbeats 4000000 in
theorem cpool_any (c : Nat) (a b d e : Value) (w : World) (h : Row w c 104 [a, b, d, e]) : Calls Tryz.prog 14 #[.pointer (some ⟨c, 0, none⟩)] w fun r w' => r = .returned a ∧ w = w' := by
  obtain ⟨c0, c1, c2, c3⟩ := h.four
  have hlc := h.lt
  clear h
  go_enter Tryz.func14, Tryz.ntmps14
  go_wp2_with fail
  go_ret
  exact ⟨rfl, rfl⟩
set_option maxRecDepth 100000 in
set_option maxHeartbeats 4000000 in
theorem cfiles_any (c : Nat) (a b d e : Value) (w : World) (h : Row w c 104 [a, b, d, e]) : Calls Tryz.prog 15 #[.pointer (some ⟨c, 0, none⟩)] w fun r w' => r = .returned b ∧ w = w' := by
  obtain ⟨c0, c1, c2, c3⟩ := h.four
  have hlc := h.lt
  clear h
  go_enter Tryz.func15, Tryz.ntmps15
  go_wp2_with fail
  go_ret
  exact ⟨rfl, rfl⟩

/-- A pool of free frames. -/
theorem good0 (rd : Int → Int → List UInt8 × Int) (n : Nat) : Good rd ⟨List.replicate n fr0, [], 0⟩ [] :=
  ⟨fun f hf => by simp only [List.getElem_replicate]; rfl, List.Pairwise.nil, List.Pairwise.nil, fun x h => (by cases h), fun x h => (by cases h), List.Pairwise.nil, fun f h => (by cases h), Nat.le_refl _, fun x h => by
    rw [(List.mem_replicate.1 h).2]
    exact List.length_replicate, fun x h => (by cases h), fun x h => (by cases h)⟩

def xsW8 (M : Nat) : List EN := [⟨[47, 97], 1, 420, 0, 0, some ⟨M, 0, none⟩, 1, [7], []⟩]
def LW8 : List ND := [⟨[47], 0, 2, 493, 0, 0, 0, [([97], 1)], [], []⟩, ⟨[47, 97], 0, 1, 420, 0, 0, 1, [], [7], []⟩]
theorem newW8 (M : Nat) : newE [root0] 0 (xsW8 M) = (0, 0, LW8) := by kernel_rfl
theorem rdW8 : rdP16 LW8 1 0 = ([7], 0) := by kernel_rfl
def sW8 : CC := ⟨(List.replicate 2 fr0).set 0 ⟨[7] ++ List.replicate 4095 0, 1⟩, [⟨1, 0, 0, 1⟩], 1⟩
theorem getW8 : getC (rdP16 LW8) ⟨List.replicate 2 fr0, [], 0⟩ 1 0 = (0, 0, sW8) := by
  have hl : lowR (List.replicate 2 fr0) = some 0 := low_some (by rfl) (fun j hj => by omega)
  have ht : takC ⟨List.replicate 2 fr0, [], 0⟩ = (((0 : Nat) : Int), 0, ⟨(List.replicate 2 fr0).set 0 one0, [], 0⟩) := takC_free (s := ⟨List.replicate 2 fr0, [], 0⟩) hl
  have hT : Taken ⟨List.replicate 2 fr0, [], 0⟩ ⟨(List.replicate 2 fr0).set 0 one0, [], 0⟩ [] 0 := by
    rcases takC_case (good0 (rdP16 LW8) 2) with ⟨k, s', h1, h2⟩ | ⟨h1, _⟩
    · rw [ht] at h1
      have e1 : (0 : Int) = (k : Int) := congrArg Prod.fst h1
      have e2 := congrArg (fun x : Int × Int × CC => x.2.2) h1
      simp only at e2
      obtain rfl : k = 0 := by omega
      rw [e2]
      exact h2
    · rw [ht] at h1
      cases h1
  have hf := filC_ok ht hT [7] (by decide)
  unfold getC
  rw [if_neg (by omega), rdW8, if_neg (by simp)]
  show (match filC ⟨List.replicate 2 fr0, [], 0⟩ [7] with
    | (f, e, s1) => if e = 0 then (f, 0, { s1 with sl := strikeS s1.sl 1 0 ++ [⟨1, 0, f, (s1.tn : Int) + 1⟩], tn := s1.tn + 1 }) else (0, e, s1)) = ((0 : Int), (0 : Int), sW8)
  rw [hf]
  dsimp only
  rw [if_pos rfl]
  simp only [List.set_set]
  rfl
theorem neq_same {P : Program} (w : World) {tp te : TypeId} {j : TypeInfo} (a : Addr) (hp : P.underlying tp = some (.pointer te)) (hte : P.info? te = some j) :
    (binOp .neq tp (.pointer (some a)) (.pointer (some a))).run P w = .ok (.bool false) w := by
  have h : ∀ d : Nat, (Op.equalIn (d + 1) tp (.pointer (some a)) (.pointer (some a))).run P w = .ok true w := fun d => by
    simp [Op.equalIn, run_underlying hp, sizeOf, typeInfo, hte, run_sameAddr_same]
  simp only [binOp]
  simp [Op.equal, Op.maxDepth, h 9999]
theorem some_of_isSome {α : Type} {o : Option α} (h : o.isSome = true) : ∃ j, o = some j := by
  cases o with
  | none => cases h
  | some j => exact ⟨j, rfl⟩
theorem neq_pool (w : World) (p : Nat) : (binOp .neq 44 (.pointer (some ⟨p, 0, none⟩)) (.pointer (some ⟨p, 0, none⟩))).run Tryz.prog w = .ok (.bool false) w := by
  obtain ⟨j, hj⟩ := some_of_isSome (show (Tryz.prog.info? 99).isSome = true by kernel_rfl)
  exact neq_same w _ Tryz.underlying44 hj
theorem neq_fs (w : World) (p : Nat) : (binOp .neq 35 (.pointer (some ⟨p, 0, none⟩)) (.pointer (some ⟨p, 0, none⟩))).run Tryz.prog w = .ok (.bool false) w := by
  obtain ⟨j, hj⟩ := some_of_isSome (show (Tryz.prog.info? 87).isSome = true by kernel_rfl)
  exact neq_same w _ Tryz.underlying35 hj
set_option maxRecDepth 100000 in
set_option maxHeartbeats 8000000 in
theorem works08_any (w : World) (hT : Tb w) : Calls Tryz.prog 5 #[] w fun e w' => e = .returned (.bool true) ∧ Below w.heap.size w w' := by
  have b1 : Below w.heap.size w (w.alloc (.cells (([7] : List UInt8).map B8).toArray 5)) := bal _
  have b2 := b1.alloc b1.size (.cells (((xsW8 w.heap.size).map EN.cs).flatten).toArray 43)
  have hd := (Row.new w 5 (([7] : List UInt8).map B8)).alloc (.cells (((xsW8 w.heap.size).map EN.cs).flatten).toArray 43)
  have hr := Row.new (w.alloc (.cells (([7] : List UInt8).map B8).toArray 5)) 43 (((xsW8 w.heap.size).map EN.cs).flatten)
  rw [World.size_alloc] at hr
  have hents := ents_of hr (by
    intro x hx
    simp only [xsW8, List.mem_cons, List.not_mem_nil, or_false] at hx
    subst hx
    refine ⟨?_, fun h => (by cases h), by dsimp only; decide, by dsimp only; decide, by dsimp only; decide, by dsimp only; decide⟩
    exact Row.byt (l := [7]) (rest := []) (by rw [List.append_nil]; exact hd) rfl)
  have HN := hid (new_any _ 1 1 (xsW8 w.heap.size) _ hents (by omega))
  have HB := hid b2
  have HT := hid hT
  clear b1 b2 hd hr hents hT
  go_enter Tryz.func5, Tryz.ntmps5
  go_wp2_with fail
  refine (HN.out).mono ?_
  rintro e' w1 ⟨hb, hp⟩
  rw [if_neg (by show ¬ 64 < 1; omega), newW8, if_pos rfl] at hp
  obtain ⟨F, t, rfl, htl, hfs, hF⟩ := hp
  obtain ⟨L, bs, ms⟩ := t
  obtain rfl : L = LW8 := htl
  have HB1 := hid (HB.out.trans (hb.mono HB.out.size))
  have HF1 := hid hfs
  have HPN := hid (poolNew_any 2 w1 (by omega) (by omega))
  clear hb hfs HN HB
  go_wp2_with fail
  refine (HPN.out).mono ?_
  rintro e' w2 ⟨p, g, h, ws, rfl, hpl, hp1, hg1, hh1, hb⟩
  have HB2 := hid hb
  have HT1 := hid (show Tb w1 from fun j hj => St.cell (HT.out j hj) HB1.out)
  have HCN := hid (cnew_any F ⟨LW8, bs, ms⟩ p g h (List.replicate 2 fr0) ws w1 w2 HF1.out hb hpl hg1 hh1 HT1.out)
  clear hpl hp1 hg1 hh1 hb
  go_wp2_with fail
  refine (HCN.out).mono ?_
  rintro e' w3 ⟨c, m, rfl, hcw, hb, hc1, hm1⟩
  have HCW := hid hcw
  have HB3 := hid hb
  have HPO := hid (cpool_any c _ _ _ _ w3 hcw.cache)
  have HFI := hid (cfiles_any c _ _ _ _ w3 hcw.cache)
  have HGE := hid (get_any w1 F ⟨LW8, bs, ms⟩ p g h c m ⟨List.replicate 2 fr0, [], 0⟩ ws [] 1 0 w3 hcw (good0 _ 2) (by simp) (by simp) ⟨by omega, by omega⟩ ⟨by omega, by omega⟩)
  rw [show (FT.mk LW8 bs ms).L = LW8 from rfl, getW8] at HGE
  have hq1 := neq_pool w3 p
  have hq2 := neq_fs w3 F
  clear hcw hb hc1 hm1
  go_wp2_with fail
  refine (HPO.out).mono ?_
  rintro e' w4 ⟨rfl, rfl⟩
  go_wp2_with fail
  refine (HFI.out).mono ?_
  rintro e' w5 ⟨rfl, rfl⟩
  go_wp2_with fail
  refine (HGE.out).mono ?_
  rintro e' w6 ⟨rfl, ⟨ws6, hc6⟩, he6⟩
  have HC6 := hid hc6
  have HE6 := hid he6
  have HLD := hid (load_any p g h sW8.fs ws6 0 0 2 w6 hc6.pool)
  have HCT := hid (fun (ww : World) (hb : Below w6.heap.size w6 ww) => count_any p g h sW8.fs ws6 0 ww (hc6.below hb).pool)
  have HG6 := hid (show Good (rdP16 LW8) sW8 [] from by
    rcases getC_case (good0 (rdP16 LW8) 2) 1 0 (rdP16_len LW8) with ⟨e, h1, h2, _⟩ | ⟨k, s', h1, h2⟩
    · rw [getW8] at h1
      cases h1
    · rw [getW8] at h1
      have e2 : sW8 = s' := congrArg (fun x : Int × Int × CC => x.2.2) h1
      rw [e2]
      exact h2.good)
  have HSL := hid (fun (ww : World) (hb : Below w6.heap.size w6 ww) => slots_any w1 F ⟨LW8, bs, ms⟩ p g h c m sW8 ws6 (rdP16 LW8) [] ww (hc6.below hb) HG6.out)
  rw [show cntF sW8.fs 0 = 1 by kernel_rfl] at HCT
  rw [show loadE sW8.fs 0 0 2 = 0 by kernel_rfl, show loadL sW8.fs 0 0 2 = [7, 0] by kernel_rfl] at HLD
  clear hc6 he6
  go_wp2_with fail
  refine (HLD.out).mono ?_
  rintro e' w7 ⟨v, rfl, ho, hb⟩
  obtain ⟨va, vc, rfl, hcl, _, _, _⟩ := own_cel ho
  obtain ⟨vb, vo, rfl, hcc⟩ := hcl.some_of (by simp)
  have x0 := hcc 0 (by simp)
  have x1 := hcc 1 (by simp)
  simp only [List.map_cons, List.map_nil, List.getElem_cons_zero, List.getElem_cons_succ, Nat.add_zero] at x0 x1
  have HX0 := hid x0
  have HX1 := hid x1
  have HB7 := hid hb
  clear ho hb hcl hcc x0 x1
  go_wp2_with fail
  refine (HSL.out w7 HB7.out).mono ?_
  rintro e' w8 ⟨v, l, rfl, hp, _, ho, hb⟩
  have hl1 : l = [⟨1, 0, 0, 1⟩] := List.perm_singleton.1 hp
  subst hl1
  obtain ⟨g8, cap8, cur8, e8, hb8, hg8, hnc8, hcm8, hcs8, ht8⟩ : ∃ g cap cur, v = .slice (some ⟨g, 0, none⟩) 1 cap ∧ w7.heap.size ≤ g ∧ w8.heap[g]? = some (.cells cur 59 (0, 0)) ∧ 1 ≤ cap ∧ cap ≤ maxLen ∧ cur.size = cap * 3 ∧ cur.toList.take (1 * 3) = [.int .i64 1, .int .i64 0, .int .i64 0] := by
    rcases ho.2 with ⟨_, h0⟩ | h1
    · cases h0
    · exact h1
  subst e8
  have y0 : w8.cell? ⟨g8, 0, none⟩ = some (.int .i64 1) := by
    unfold World.cell?
    simp only [hg8]
    have := congrArg (fun l : List Value => l[0]?) ht8
    simpa using this
  have y2 : w8.cell? ⟨g8, 2, none⟩ = some (.int .i64 0) := by
    unfold World.cell?
    simp only [hg8]
    have := congrArg (fun l : List Value => l[2]?) ht8
    simpa using this
  have x0 := St.cell HX0.out hb
  have x1 := St.cell HX1.out hb
  have HB8 := hid hb
  have hz8 : (1 : Nat) ≤ cap8 := hnc8
  clear ho hp hb hb8 hg8 hcs8 ht8
  have HCN8 := hid (HCT.out w8 (HB7.out.trans (HB8.out.mono HB7.out.size)))
  go_wp2_with fail
  refine (HCN8.out).mono ?_
  rintro e' w9 ⟨rfl, rfl⟩
  go_wp2_with fail
  go_ret
  have h13 := HB2.out.trans (HB3.out.mono HB2.out.size)
  have h16 := HE6.out.below h13 (fun k hk => by
    have h1 := HC6.out.lg; have h2 := HC6.out.lh; have h3 := HC6.out.lc; have h4 := HC6.out.lm
    rcases hk with rfl | rfl | rfl | rfl <;> assumption) h13.size
  have h17 := h16.trans (HB7.out.mono h16.size)
  exact ⟨rfl, HB1.out.trans (Below.mono (h17.trans (HB8.out.mono h17.size)) HB1.out.size)⟩
end Go.Proofs.YtfaohejdaabalaaGreatDoor
namespace Go.Proofs.YtfaohejdaabalaaGreatDoor
open Go.RowKit Go.Sort Go.Shelf Go.WideMaps Go.Maps Go.WideShapes Go.WideElems Go.MapKept Go.ChangeMaps
attribute [local go_sem] Oper.semAt_some

set_option maxRecDepth 100000 in
theorem ntake_any (w : World) : Calls Tryz.prog 25 #[.pointer none] w fun e w' => e = .returned (.tuple #[.int .i64 0, .int .i64 2]) ∧ w = w' := by
  go_enter Tryz.func25, Tryz.ntmps25
  go_wp2_with fail
  go_ret2
  exact ⟨rfl, rfl⟩
set_option maxRecDepth 100000 in
theorem nget_any (i p : Int) (w : World) : Calls Tryz.prog 16 #[.pointer none, .int .i64 i, .int .i64 p] w fun e w' => e = .returned (.tuple #[.int .i64 0, .int .i64 2]) ∧ w = w' := by
  go_enter Tryz.func16, Tryz.ntmps16
  go_wp2_with fail
  go_ret2
  exact ⟨rfl, rfl⟩
set_option maxRecDepth 100000 in
theorem ndrop_any (w : World) : Calls Tryz.prog 32 #[.pointer none] w fun e w' => e = .returned (.tuple #[]) ∧ w = w' := by
  go_enter Tryz.func32, Tryz.ntmps32
  go_wp2_with fail
  exact bodyPost_ret (v := .tuple #[]) (results_none rfl _ _ _) rfl ⟨rfl, rfl⟩
set_option maxRecDepth 100000 in
theorem nslots_any (w : World) : Calls Tryz.prog 18 #[.pointer none] w fun e w' => e = .returned (.slice none 0 0) ∧ w = w' := by
  go_enter Tryz.func18, Tryz.ntmps18
  go_wp2_with fail
  go_ret
  exact ⟨rfl, rfl⟩
set_option maxRecDepth 100000 in
theorem npool_any (w : World) : Calls Tryz.prog 14 #[.pointer none] w fun e w' => e = .returned (.pointer none) ∧ w = w' := by
  go_enter Tryz.func14, Tryz.ntmps14
  go_wp2_with fail
  go_ret
  exact ⟨rfl, rfl⟩
set_option maxRecDepth 100000 in
theorem nfiles_any (w : World) : Calls Tryz.prog 15 #[.pointer none] w fun e w' => e = .returned (.pointer none) ∧ w = w' := by
  go_enter Tryz.func15, Tryz.ntmps15
  go_wp2_with fail
  go_ret
  exact ⟨rfl, rfl⟩
set_option maxRecDepth 100000 in
theorem nnew1_any (f : Option Addr) (w : World) : Calls Tryz.prog 13 #[.pointer none, .pointer f] w fun e w' => e = .returned (.tuple #[.pointer none, .int .i64 2]) ∧ w = w' := by
  go_enter Tryz.func13, Tryz.ntmps13
  go_wp2_with fail
  go_ret2
  exact ⟨rfl, rfl⟩
set_option maxRecDepth 100000 in
theorem nnew2_any (p : Addr) (w : World) : Calls Tryz.prog 13 #[.pointer (some p), .pointer none] w fun e w' => e = .returned (.tuple #[.pointer none, .int .i64 2]) ∧ w = w' := by
  go_enter Tryz.func13, Tryz.ntmps13
  go_wp2_with fail
  go_ret2
  exact ⟨rfl, rfl⟩
theorem newW0 : newE [root0] 0 [] = (0, 0, [root0]) := rfl
end Go.Proofs.YtfaohejdaabalaaGreatDoor
namespace Go.Proofs.YtfaohejdaabalaaGreatDoor
open Go.RowKit Go.Sort Go.Shelf Go.WideMaps Go.Maps Go.WideShapes Go.WideElems Go.MapKept Go.ChangeMaps
attribute [local go_sem] Oper.semAt_some

def nI (k : Nat) : Value := .int .i64 (k : Int)
/-- The frame at a place, counted round. -/
def atP (l : List Nat) (n : Int) : Option Nat := if l = [] ∨ n < 0 then none else l[n.toNat % l.length]?
def atE (o : Option Nat) : Value := match o with
  | some k => .tuple #[.int .i64 (k : Int), .bool true]
  | none => .tuple #[.int .i64 0, .bool false]
theorem atP_some {l : List Nat} {n : Int} (h : ¬ (l = [] ∨ n < 0)) : ∃ j, ∃ hj : j < l.length, n.tmod (l.length : Int) = (j : Int) ∧ atP l n = some l[j] ∧ j = n.toNat % l.length := by
  have hl : 0 < l.length := List.length_pos_iff.2 (fun e => h (.inl e))
  obtain ⟨q, rfl⟩ := Int.eq_ofNat_of_zero_le (show 0 ≤ n by omega)
  refine ⟨(q : Int).toNat % l.length, Nat.mod_lt _ hl, ?_, ?_, rfl⟩
  · rw [Int.tmod_eq_emod_of_nonneg (by omega), Int.toNat_natCast]
    exact (Int.natCast_emod q l.length).symm
  · unfold atP
    rw [if_neg h, List.getElem?_eq_getElem]
set_option maxRecDepth 100000 in
set_option maxHeartbeats 4000000 in
theorem at_any8 (a : Option Addr) (cap : Nat) (l : List Nat) (n : Int) (w : World) (h : Cel w a l.length (l.map nI)) :
    Calls Tryz.prog 27 #[.slice a l.length cap, .int .i64 n] w fun e w' => e = .returned (atE (atP l n)) ∧ w = w' := by
  by_cases hc : l = [] ∨ n < 0
  · have hR := hid (show atP l n = none by unfold atP; rw [if_pos hc])
    rw [hR.out]
    by_cases h0 : l = []
    · subst h0
      clear hc hR
      go_enter Tryz.func27, Tryz.ntmps27
      go_wp2_with fail
      go_ret2
      exact ⟨rfl, rfl⟩
    · have hn : n < 0 := hc.resolve_left h0
      have e1 : decide (n < 0) = true := decide_eq_true hn
      have hp : 0 < l.length := List.length_pos_iff.2 h0
      have e2 : ((l.length : Int) == 0) = false := by simp; exact h0
      have e3 : decide ((l.length : Int) = 0) = false := by simp; exact h0
      clear hc hR h0 hn
      go_enter Tryz.func27, Tryz.ntmps27
      go_wp2_with fail
      go_ret2
      exact ⟨rfl, rfl⟩
  · obtain ⟨j, hj, hm, hR, hjj⟩ := atP_some hc
    clear hjj
    have e1 : decide (n < 0) = false := decide_eq_false (fun e => hc (.inr e))
    have e2 : ((l.length : Int) == 0) = false := by simp; exact fun e => hc (.inl e)
    have e3 : decide ((l.length : Int) = 0) = false := by simp; exact fun e => hc (.inl e)
    obtain ⟨b, off, rfl, hat⟩ := h.some_of (by simp; omega)
    have x0 := hat j (by simpa using hj)
    rw [List.getElem_map] at x0
    unfold nI at x0
    have hj0 : (0 : Int) ≤ (j : Int) := by omega
    have hj1 : (j : Int) < (l.length : Int) := by omega
    rw [hR]
    unfold atE
    have hnz : ¬ (l.length : Int) = 0 := by omega
    generalize l[j] = y at *
    clear hc hR hat h
    go_enter Tryz.func27, Tryz.ntmps27
    go_wp2_with fail
    go_ret2
    exact ⟨rfl, rfl⟩
end Go.Proofs.YtfaohejdaabalaaGreatDoor
namespace Go.Proofs.YtfaohejdaabalaaGreatDoor
open Go.RowKit Go.Sort Go.Shelf Go.WideMaps Go.Maps Go.WideShapes Go.WideElems Go.MapKept Go.ChangeMaps
attribute [local go_sem] Oper.semAt_some

structure O8 where
  kind : Int
  i : Int
  p : Int
  n : Int
/-- A cache; which frames were answered, which are held. -/
structure S8 where
  s : CC
  l : List Nat
  h : List Nat
def does8 (rd : Int → Int → List UInt8 × Int) (st : S8) (o : O8) : S8 :=
  if o.kind = 0 then (match getC rd st.s o.i o.p with
    | (f, e, s') => if e = 0 then ⟨s', st.l ++ [f.toNat], st.h⟩ else ⟨s', st.l, st.h⟩)
  else if o.kind = 1 then (match takC st.s with
    | (f, e, s') => if e = 0 then ⟨s', st.l ++ [f.toNat], st.h ++ [f.toNat]⟩ else ⟨s', st.l, st.h⟩)
  else if o.kind = 2 then (match atP st.l o.n with
    | none => st
    | some f => if cntF st.s.fs (f : Int) = 0 then st else ⟨{ st.s with fs := upS st.s.fs (f : Int) }, st.l, st.h ++ [f]⟩)
  else if o.kind = 3 then (match atP st.h o.n with
    | none => st
    | some f => ⟨{ st.s with fs := downS st.s.fs (f : Int) }, st.l, st.h.eraseIdx (o.n.toNat % st.h.length)⟩)
  else if o.kind = 4 then ⟨drpC st.s, st.l, st.h⟩ else st
theorem upS_zero {fs : List FR} {f : Int} (h : cntF fs f = 0) : upS fs f = fs := by unfold upS; rw [if_pos h]
/-- What does keeps; ex: what is held besides. -/
structure Did (rd : Int → Int → List UInt8 × Int) (st st' : S8) (ex : List Nat) : Prop where
  good : Good rd st'.s (st'.h ++ ex)
  len : st'.s.fs.length = st.s.fs.length
  tn : st'.s.tn ≤ st.s.tn + 1
  ll : st'.l.length ≤ st.l.length + 1
  hh : st'.h.length ≤ st.h.length + 1
theorem erase_perm {α : Type} : ∀ (l : List α) (j : Nat) (hj : j < l.length), l.Perm (l[j] :: l.eraseIdx j)
  | [], _, hj => by simp at hj
  | x :: l, 0, _ => by simp
  | x :: l, j + 1, hj => by
    have := erase_perm l j (by simpa using hj)
    simp only [List.getElem_cons_succ, List.eraseIdx_cons_succ]
    exact (this.cons x).trans (List.Perm.swap _ _ _)
theorem does8_did {rd : Int → Int → List UInt8 × Int} {st : S8} {ex : List Nat} (o : O8) (G : Good rd st.s (st.h ++ ex)) (hr : ∀ i p, (rd i p).1.length ≤ 4096) : Did rd st (does8 rd st o) ex := by
  have same : Did rd st st ex := ⟨G, rfl, by omega, by omega, by omega⟩
  unfold does8
  by_cases k0 : o.kind = 0
  · rw [if_pos k0]
    rcases getC_case G o.i o.p hr with ⟨e, h1, h2, _⟩ | ⟨k, s', h1, h2⟩
    · rw [h1]
      simp only [if_neg h2]
      exact same
    · rw [h1]
      simp only [if_true, Int.toNat_natCast]
      exact ⟨h2.good, h2.len, by rw [h2.tn]; exact Nat.le_refl _, by simp, by simp⟩
  · rw [if_neg k0]
    by_cases k1 : o.kind = 1
    · rw [if_pos k1]
      rcases takC_case G with ⟨k, s', h1, T⟩ | ⟨h1, _⟩
      · rw [h1]
        simp only [if_true, Int.toNat_natCast]
        exact ⟨(T.good G).perm (by rw [List.append_assoc]; exact List.perm_middle.symm), by simp only [T.fs, List.length_set], by simp only [T.tn]; omega, by simp, by simp⟩
      · rw [h1]
        exact same
    · rw [if_neg k1]
      by_cases k2 : o.kind = 2
      · rw [if_pos k2]
        cases ha : atP st.l o.n with
        | none => exact same
        | some f =>
          simp only
          by_cases hc : cntF st.s.fs (f : Int) = 0
          · rw [if_pos hc]; exact same
          · rw [if_neg hc]
            have hf : f < st.s.fs.length := by
              rcases Nat.lt_or_ge f st.s.fs.length with h | h
              · exact h
              · exact absurd (cntF_out (by omega)) hc
            refine ⟨(G.up hf (by rw [← cntF_at hf]; exact hc)).perm (by rw [List.append_assoc]; exact List.perm_middle.symm), ?_, by simp only; omega, by simp, by simp⟩
            simp only [upS, if_neg hc, List.length_set]
      · rw [if_neg k2]
        by_cases k3 : o.kind = 3
        · rw [if_pos k3]
          cases ha : atP st.h o.n with
          | none => exact same
          | some f =>
            simp only
            have hc : ¬ (st.h = [] ∨ o.n < 0) := fun e => by unfold atP at ha; rw [if_pos e] at ha; cases ha
            obtain ⟨j, hj, _, h2, hjj⟩ := atP_some hc
            rw [← hjj]
            rw [ha] at h2
            have e2 := Option.some.inj h2
            have hp : (st.h ++ ex).Perm (f :: (st.h.eraseIdx j ++ ex)) := by
              have h3 : st.h.Perm (st.h[j] :: st.h.eraseIdx j) := erase_perm _ _ hj
              rw [← e2] at h3
              exact h3.append_right ex
            refine ⟨(G.perm hp).down, ?_, by simp only; omega, by simp, ?_⟩
            · simp only [downS]
              split
              · rfl
              · rw [List.length_set]
            · simp only [List.length_eraseIdx]
              split <;> omega
        · rw [if_neg k3]
          by_cases k4 : o.kind = 4
          · rw [if_pos k4]
            refine ⟨G.drop, ?_, by simp only [drpC]; omega, by simp, by simp⟩
            simp only [drpC, drpF_len]
          · rw [if_neg k4]; exact same

section
variable {w0 w w' : World} {F : Nat} {t : FT} {p g h c m ob : Nat} {vl vh : Value} {st : S8} {ws ws' : List Nat}
theorem own_map {E n base : Nat} {v : Value} {xs : List Value} {N : Nat} {sl : List SLO} (ho : w.ownsRow base E 1 v n xs) (hm : CM w m N sl) : some m ≠ v.ownBlock := by
  rcases ho.2 with ⟨h1, _⟩ | ⟨g, cap, cur, rfl, hb, hg, _⟩
  · rw [h1]; exact fun e => by cases e
  · intro e1
    simp only [Value.ownBlock, Option.some.injEq] at e1
    subst e1
    obtain ⟨D, ⟨es, clock, hb, _⟩, _⟩ := hm
    rw [hb] at hg
    cases hg
theorem CW.nI {base n : Nat} {v : Value} {xs : List Value} {s : CC} (H : CW w0 F t p g h c m s ws w) (ho : w.ownsRow base 3 1 v n xs) : ∀ k, v.ownBlock = some k → ¬ cS g h c m k := by
  intro k e hk
  rcases hk with rfl | rfl | rfl | rfl
  · exact own_row_ne ho H.cache (by decide) e.symm
  · exact own_map ho H.map e.symm
  · exact own_row_ne ho H.pool.frames (by decide) e.symm
  · exact own_row_ne ho H.pool.words (by decide) e.symm
theorem CW.nU8 {base n : Nat} {v : Value} {xs : List Value} {s : CC} (H : CW w0 F t p g h c m s ws w) (ho : w.ownsRow base 5 1 v n xs) : ∀ k, v.ownBlock = some k → ¬ cS g h c m k := by
  intro k e hk
  rcases hk with rfl | rfl | rfl | rfl
  · exact own_row_ne ho H.cache (by decide) e.symm
  · exact own_map ho H.map e.symm
  · exact own_row_ne ho H.pool.frames (by decide) e.symm
  · exact own_row_ne ho H.pool.words (by decide) e.symm
theorem own_kept_tys {base n base' n' : Nat} {E E' : TypeId} {v u : Value} {xs ys : List Value} (ho : w.ownsRow base E 1 v n xs) (hu : w.ownsRow base' E' 1 u n' ys) (hE : E ≠ E') (hg : w.grownBy w' u.ownBlock) : w'.ownsRow base E 1 v n xs :=
  ho.kept hg (by
    cases hv : v.ownBlock with
    | none => exact .inl rfl
    | some k => exact .inr (fun e => by
        have hk := (ho.lt k hv).2
        obtain ⟨o, hob⟩ : ∃ o, w.heap[k]? = some o := ⟨_, Array.getElem?_eq_getElem hk⟩
        obtain ⟨c1, e1⟩ := own_cells ho k o hv hob
        obtain ⟨c2, e2⟩ := own_cells hu k o e.symm hob
        rw [e1] at e2
        cases e2
        exact hE rfl))
/-- All that is the cache's stands where a list of numbers turns. -/
theorem CW.grown {base n : Nat} {v : Value} {xs : List Value} {s : CC} (H : CW w0 F t p g h c m s ws w) (ho : w.ownsRow base 3 1 v n xs) (hg : w.grownBy w' v.ownBlock) (hb : ∀ k, v.ownBlock = some k → w0.heap.size ≤ k) : CW w0 F t p g h c m s ws w' :=
  have r := fun {gg : Nat} {T : TypeId} {cs : List Value} (hh : Row w gg T cs) (hT : T ≠ 3) => hh.grown hg (own_row_ne ho hh hT)
  ⟨r H.cache (by decide), ⟨r H.pool.pool (by decide), r H.pool.frames (by decide), r H.pool.words (by decide), H.pool.ok, H.pool.n1, H.pool.n2, H.pool.wl, H.pool.wb, H.pool.c0⟩, H.map.same (hg.block m H.map.lt (own_map ho H.map)), H.files, H.low.grown hg H.low.size hb, H.lg, H.lh, H.lc, H.lm, H.few, H.tb⟩
theorem own_kept2 {base E n base' n' : Nat} {v u : Value} {xs ys : List Value} (ho : w.ownsRow base E 1 v n xs) (_hu : w.ownsRow base' E 1 u n' ys) (hg : w.grownBy w' u.ownBlock) (hne : ∀ g, u.ownBlock = some g → v.ownBlock ≠ some g) : w'.ownsRow base E 1 v n xs :=
  ho.kept hg (by
    cases hv : v.ownBlock with
    | none => exact .inl rfl
    | some k => exact .inr (fun e => hne k e.symm hv))
theorem own_base_le {base E n : Nat} {v : Value} {xs : List Value} (ho : w.ownsRow base E 1 v n xs) : ∀ k, v.ownBlock = some k → base ≤ k ∧ k < w.heap.size := fun k hk => ⟨(ho.lt k hk).1, (ho.lt k hk).2⟩
end
theorem infoI : (Tryz.prog.info? 3).map (fun i => (i.zero, i.size, i.bytes)) = some (some (.int .i64 0), 1, 8) := by kernel_rfl
/-- append(v, x), numbers. -/
theorem wpList_apI {w : World} {ops : Array Oper} {rest : List Oper} {o : Oper} {a : Act} {Q : Exit → Act → World → Prop} (hgd : o.guard = none) (s x : Operand)
    (ho : o.op = .call { callee := .builtin .append, args := #[s, x], argTypes := #[71, 71] })
    (base : Nat) (v : Value) (n : Nat) (xs news : List Value) (hs : a.eval s = v) (ad : Addr) (m c : Nat) (hx : a.eval x = .slice (some ad) m c) (hown : w.ownsRow base 3 1 v n xs) (hy : Cel w (some ad) m news) (hone : ∀ u ∈ news, u.oneCell' = true) (hn : n + m ≤ 1000000000) (hbase : base ≤ w.heap.size)
    (h : ∀ v' w', w'.ownsRow base 3 1 v' (n + m) (xs ++ news) → w.grownBy w' v.ownBlock → (v'.ownBlock = v.ownBlock ∨ v'.ownBlock = some w.heap.size) → wpList Tryz.prog ops Q rest (a.put o.dst v') w') :
    wpList Tryz.prog ops Q (o :: rest) a w := by
  obtain ⟨i0, hi0, hz0, hz1, hz2⟩ := info_parts infoI
  refine wpList_append_own_at w hgd s x _ ho base _ i0 _ 1 8 Tryz.underlying71 hi0 hz0 hz1 hz2 rfl (by decide) v n _ hs hown ad m c news hx (by have := hy.hlen; omega) hy.news hone (by unfold maxLen; omega) (by omega) hbase ?_
  intro v' w' h1 h2 _ h4
  exact h v' w' h1 h2 h4
theorem own_hdI {w : World} {base E n : Nat} {v : Value} {xs : List Value} (h : w.ownsRow base E 1 v n xs) : ∃ a c, v = .slice a n c := by
  rcases h.2 with ⟨rfl, rfl⟩ | ⟨g, cap, cur, rfl, _⟩
  · exact ⟨_, _, rfl⟩
  · exact ⟨_, _, rfl⟩
end Go.Proofs.YtfaohejdaabalaaGreatDoor
namespace Go.Proofs.YtfaohejdaabalaaGreatDoor
open Go.RowKit Go.Sort Go.Shelf Go.WideMaps Go.Maps Go.WideShapes Go.WideElems Go.MapKept Go.ChangeMaps
attribute [local go_sem] Oper.semAt_some

def smallE8 (x : EN) : Prop := x.path.length ≤ 524288 ∧ x.to.length ≤ 524288 ∧ x.data.length ≤ 524288
theorem EntsIn.small8 {w : World} {a : Option Addr} {n : Nat} {xs : List EN} (h : EntsIn w a n xs) (hs : ∀ x ∈ xs, smallE8 x) : Ents w a n xs :=
  ⟨h.rows, fun x hx => by
    obtain ⟨h1, h2, h3, h4, h5, h6⟩ := h.ok x hx
    obtain ⟨s1, s2, s3⟩ := hs x hx
    exact ⟨h1, h2, by omega, by omega, by omega, h6⟩⟩
def GreatP (w : World) (xs : List EN) (e : Ending) (w' : World) : Prop := ∃ b, e = .returned (.bool b) ∧ Below w.heap.size w w' ∧ (b = false → ∀ x ∈ xs, smallE8 x)
set_option maxRecDepth 100000 in
set_option maxHeartbeats 4000000 in
theorem great_any (a : Option Addr) (cap : Nat) (xs : List EN) (w : World) (hX : EntsIn w a xs.length xs) (hl : xs.length ≤ 64) :
    Calls Tryz.prog 10 #[.slice a xs.length cap] w (GreatP w xs) := by
  have HX := hid hX
  have HL := hid hl
  have d0 : decide ((128 : Int) < (xs.length : Int)) = false := by simp; omega
  clear hX
  go_enter Tryz.func10, Tryz.ntmps10
  go_wp2_with fail
  clear d0
  go_loopw [3, 4] (fun n i wr => Below w.heap.size w wr ∧ ∃ k m : Nat, k ≤ xs.length ∧ i = .int .i64 k ∧ n = .int .i64 m ∧ m ≤ 524288 ∧ ∀ j (hj : j < xs.length), j < k → min xs[j].path.length 1048576 ≤ m ∧ min xs[j].data.length 1048576 ≤ m ∧ min xs[j].to.length 1048576 ≤ m) (fun _ i _ => xs.length - (intOf i).toNat)
  case atStart => exact ⟨Below.refl _ _, 0, 0, Nat.zero_le _, rfl, rfl, by omega, fun j _ h => by omega⟩
  case round =>
    obtain ⟨hbw, k, m, hk, rfl, rfl, h2, h3⟩ := hrel
    have H3 := hid h3
    have HBW := hid hbw
    clear h3 hbw
    by_cases hlt : k < xs.length
    · have d1 : decide ((k : Int) < (xs.length : Int)) = true := by simp; omega
      have d1n : decide (k < xs.length) = true := by simp; omega
      obtain ⟨b, o, rfl, hcell⟩ := (HX.out.rows.below' HBW.out).some_of (by simp; omega)
      have g := fun j hj => hcell k (by simpa using hlt) j hj
      have e9 : (xs.map EN.cs)[k]'(by simpa using hlt) = xs[k].cs := by simp
      rw [e9] at g
      have g0 := g 0 (by simp [EN.cs])
      have g5 := g 5 (by simp [EN.cs])
      have g6 := g 6 (by simp [EN.cs])
      simp only [EN.cs, List.getElem_cons_zero, List.getElem_cons_succ, Nat.add_zero] at g0 g5 g6
      have HOK := hid (HX.out.ok _ (List.getElem_mem hlt))
      have HSTEP := hid (fun (m' : Nat) (hm : m ≤ m') (hx : min (xs[k].path.length) 1048576 ≤ m' ∧ min (xs[k].data.length) 1048576 ≤ m' ∧ min (xs[k].to.length) 1048576 ≤ m') => show ∀ j (hj : j < xs.length), j < k + 1 → min xs[j].path.length 1048576 ≤ m' ∧ min xs[j].data.length 1048576 ≤ m' ∧ min xs[j].to.length 1048576 ≤ m' from fun j hj hjk => by
        by_cases e : j = k
        · subst e; exact hx
        · obtain ⟨q1, q2, q3⟩ := H3.out j hj (by omega)
          exact ⟨Nat.le_trans q1 hm, Nat.le_trans q2 hm, Nat.le_trans q3 hm⟩)
      clear hcell g e9
      generalize xs[k] = x at *
      have hp := HOK.out.path
      have ht := HOK.out.to
      have hd := HOK.out.data
      have e1 : (ba x.path).size = x.path.length := ba_size _
      have e2 : (ba x.to).size = x.to.length := ba_size _
      generalize hmp : min x.path.length 1048576 = mp at *
      generalize hmd : min x.data.length 1048576 = md at *
      generalize hmt : min x.to.length 1048576 = mt at *
      have i1 : (if decide ((1048576 : Int) < ((ba x.path).size : Int)) = true then (1048576 : Int) else ((ba x.path).size : Int)) = (mp : Int) := by rw [e1]; split <;> simp_all <;> omega
      have hblt := World.block_lt_of_cell? _ _ g0
      dsimp only at hblt
      go_wp2_with fail
      go_quiet (fail)
      have HSUM := hid (show ((m + md + mp + mt : Nat) : Int) = (m : Int) + min (x.data.length : Int) 1048576 + min (x.path.length : Int) 1048576 + min (x.to.length : Int) 1048576 by omega)
      have HB := hid (show mp ≤ 1048576 ∧ md ≤ 1048576 ∧ mt ≤ 1048576 by omega)
      rw [← HSUM.out]
      clear hmp hmd hmt i1 e1 e2 hp ht hd
      obtain ⟨M, hM⟩ : ∃ M, M = m + md + mp + mt := ⟨_, rfl⟩
      rw [← hM]
      have HM := hid hM
      by_cases hn : M ≤ 524288
      · have d2 : decide ((524288 : Int) < (M : Int)) = false := by simp; omega
        clear hM
        go_wp2_with fail
        go_roundw
        case rel =>
          obtain ⟨q1, q2, q3⟩ := HB.out
          have := HM.out
          exact ⟨bdN HBW.out _, k + 1, M, by omega, by go_num, rfl, hn, HSTEP.out _ (by omega) ⟨by omega, by omega, by omega⟩⟩
        case measure => simp [intOf]; omega
      · have d2 : decide ((524288 : Int) < (M : Int)) = true := by simp; omega
        clear hM
        go_wp2_with fail
        go_ret
        exact ⟨true, rfl, bdN HBW.out _, fun h => (by cases h)⟩
    · have d1 : decide ((k : Int) < (xs.length : Int)) = false := by simp; omega
      have d1n : decide (k < xs.length) = false := by simp; omega
      have HLE := hid (show ∀ x ∈ xs, smallE8 x from fun x hx => by
        obtain ⟨j, hj, rfl⟩ := List.getElem_of_mem hx
        obtain ⟨q1, q2, q3⟩ := H3.out j hj (by omega)
        exact ⟨by omega, by omega, by omega⟩)
      go_wp2_with fail
      go_ret
      exact ⟨false, rfl, HBW.out, fun _ => HLE.out⟩
/-- Files, and how many frames. -/
def flV (a : Option Addr) (n cap : Nat) (N : Int) : Value := .agg #[.slice a n cap, .int .i64 N]
def VastP (w : World) (xs : List EN) (N : Int) (m : Nat) (e : Ending) (w' : World) : Prop := ∃ b, e = .returned (.bool b) ∧ Below w.heap.size w w' ∧ (b = false → (∀ x ∈ xs, smallE8 x) ∧ xs.length ≤ 64 ∧ N ≤ 64 ∧ m ≤ 200)
set_option maxRecDepth 100000 in
set_option maxHeartbeats 4000000 in
theorem vast8_any (a : Option Addr) (cap : Nat) (xs : List EN) (N : Int) (oa : Option Addr) (m oc : Nat) (w : World) (hX : EntsIn w a xs.length xs) :
    Calls Tryz.prog 4 #[flV a xs.length cap N, .slice oa m oc] w (VastP w xs N m) := by
  obtain ⟨w1, hw1⟩ : ∃ w1, w1 = w.alloc (.cells #[.slice a xs.length cap, .int .i64 N] 24) := ⟨_, rfl⟩
  have HB1 := hid (show Below w.heap.size w w1 by rw [hw1]; exact bal _)
  have HR1 := hid (show Row w1 w.heap.size 24 [.slice a xs.length cap, .int .i64 N] by rw [hw1]; exact Row.new w _ _)
  have HX1 := hid (show EntsIn w1 a xs.length xs from ⟨hX.rows.below' HB1.out, fun x hx => by
    obtain ⟨h1, h2, h3, h4, h5, h6⟩ := hX.ok x hx
    exact ⟨h1.below' HB1.out, h2, h3, h4, h5, h6⟩⟩)
  have HW1 := hid hw1
  clear hX hw1
  unfold flV
  by_cases c1 : 200 < m
  · have d1 : decide ((200 : Int) < (m : Int)) = true := by simp; omega
    clear c1
    go_enter Tryz.func4, Tryz.ntmps4
    go_wp2_with fail
    go_ret
    exact ⟨true, rfl, bal _, fun h => (by cases h)⟩
  have d1 : decide ((200 : Int) < (m : Int)) = false := by simp; omega
  by_cases c2 : 64 < N
  · have d2 : decide (64 < N) = true := decide_eq_true c2
    clear c1 c2
    go_enter Tryz.func4, Tryz.ntmps4
    go_wp2_with fail
    go_ret
    exact ⟨true, rfl, bal _, fun h => (by cases h)⟩
  have d2 : decide (64 < N) = false := decide_eq_false c2
  by_cases c3 : 64 < xs.length
  · have d3 : decide ((64 : Int) < (xs.length : Int)) = true := by simp; omega
    clear c1 c2 c3
    go_enter Tryz.func4, Tryz.ntmps4
    go_wp2_with fail
    go_ret
    exact ⟨true, rfl, bal _, fun h => (by cases h)⟩
  have d3 : decide ((64 : Int) < (xs.length : Int)) = false := by simp; omega
  have HC := hid (show N ≤ 64 ∧ m ≤ 200 ∧ xs.length ≤ 64 by omega)
  have HGR := hid (great_any a cap xs w1 HX1.out HC.out.2.2)
  clear c1 c2 c3
  go_enter Tryz.func4, Tryz.ntmps4
  go_wp2_with fail
  rw [← HW1.out]
  refine (HGR.out).mono ?_
  rintro e w2 ⟨b, rfl, hb, hs⟩
  have HB2 := hid hb
  have HS := hid hs
  clear hb hs
  go_wp2_with fail
  go_ret
  exact ⟨b, rfl, bthen HB1.out HB2.out, fun h => ⟨HS.out h, HC.out.2.2, HC.out.1, HC.out.2.1⟩⟩
/-- What a list of bytes of the call's own is. -/
theorem own_data {w : World} {base n : Nat} {v : Value} {l : List UInt8} (h : w.ownsRow base 5 1 v n (l.map B8)) : ∃ a c, v = .slice a n c ∧ Byt w a n l ∧ (a = none → c = 0) ∧ (∀ b, a = some b → base ≤ b.block ∧ b.block < w.heap.size) ∧ (∀ b, a = some b → ∃ cs, w.heap[b.block]? = some (Obj.cells cs 5 (0, 0))) := by
  rcases h.2 with ⟨rfl, rfl⟩ | ⟨g, cap, cur, rfl, hb, hg, r⟩
  · obtain rfl : l = [] := by have := h.1; simpa using this
    exact ⟨none, 0, rfl, Byt.nil _ _, fun _ => rfl, fun b e => (by cases e), fun b e => (by cases e)⟩
  · obtain ⟨a, c, e, hby⟩ := own_byt h
    have i0 := Value.slice.inj e
    refine ⟨_, _, rfl, by rw [i0.1]; exact hby, fun e => (by cases e), fun b e => ?_, fun b e => ?_⟩
    · cases e; exact ⟨hb, (Array.getElem?_eq_some_iff.1 hg).1⟩
    · cases e; exact ⟨cur, hg⟩
end Go.Proofs.YtfaohejdaabalaaGreatDoor
namespace Go.Proofs.YtfaohejdaabalaaGreatDoor
open Go.RowKit Go.Sort Go.Shelf Go.WideMaps Go.Maps Go.WideShapes Go.WideElems Go.MapKept Go.ChangeMaps
attribute [local go_sem] Oper.semAt_some

theorem infoU8b : (Tryz.prog.info? 5).map (fun i => (i.zero, i.size, i.bytes)) = some (some (.int .u8 0), 1, 1) := by kernel_rfl
theorem byt_cel8 {w : World} {a : Option Addr} {n : Nat} {l : List UInt8} (h : Byt w a n l) : Cel w a n (l.map B8) :=
  ⟨by rw [List.length_map]; exact h.hlen, fun i hi => by
    obtain ⟨b, o, e, hc⟩ := h.cell i (by simpa using hi)
    exact ⟨b, o, e, by rw [hc]; simp [B8]⟩⟩
set_option maxRecDepth 100000 in
set_option maxHeartbeats 8000000 in
theorem twins_any (a : Option Addr) (cap : Nat) (xs : List EN) (w : World) (hX : Ents w a xs.length xs) (hl : xs.length ≤ 1000000) :
    Calls Tryz.prog 20 #[.slice a xs.length cap] w fun e w' => ∃ v ys, e = .returned v ∧ Cpe w w.heap.size xs xs.length v ys w' := by
  have HX := hid hX
  clear hX
  go_enter Tryz.func20, Tryz.ntmps20
  go_wp2_with fail
  go_loopw [3, 4] (fun v i wr => ∃ k : Nat, ∃ ys, k ≤ xs.length ∧ i = .int .i64 k ∧ Cpe w w.heap.size xs k v ys wr) (fun _ i _ => xs.length - (intOf i).toNat)
  case atStart => exact ⟨0, [], Nat.zero_le _, rfl, ⟨ownE_nil _ _, rfl, fun y hy => by simp at hy, fun y hy => by simp at hy, fun i hi => by simp at hi, fun y hy => by simp at hy, Below.refl _ _, fun y hy => by simp at hy, fun i j hi => by simp at hi⟩⟩
  case round =>
    obtain ⟨k, ys, hk, rfl, hC⟩ := hrel
    have HC := hid hC
    obtain ⟨av, cv, rfl, _⟩ := own_rk hC.own (enC_len ys) (by omega)
    clear hC
    by_cases hlt : k < xs.length
    · have d1 : decide ((k : Int) < (xs.length : Int)) = true := by simp; omega
      have d1n : decide (k < xs.length) = true := by simp; omega
      obtain ⟨b, o, rfl, hcell⟩ := (HX.out.rows.below' (bthen (Below.refl _ _) HC.out.below)).some_of (by simp; omega)
      have g := fun j hj => hcell k (by simpa using hlt) j hj
      have e9 : (xs.map EN.cs)[k]'(by simpa using hlt) = xs[k].cs := by simp
      rw [e9] at g
      have g0 := g 0 (by simp [EN.cs])
      have g1 := g 1 (by simp [EN.cs])
      have g2 := g 2 (by simp [EN.cs])
      have g3 := g 3 (by simp [EN.cs])
      have g4 := g 4 (by simp [EN.cs])
      have g5 := g 5 (by simp [EN.cs])
      have g6 := g 6 (by simp [EN.cs])
      simp only [EN.cs, List.getElem_cons_zero, List.getElem_cons_succ, Nat.add_zero] at g0 g1 g2 g3 g4 g5 g6
      have hblt := World.block_lt_of_cell? _ _ g0
      dsimp only at hblt
      have HOK := hid ((HX.out.ok _ (List.getElem_mem hlt)).below HC.out.below)
      have HLT := hid hlt
      clear hcell g e9
      generalize hx : xs[k] = x at *
      have HXX := hid hx
      clear hx
      have HLN := hid (show ys.length ≤ 1000000000000 by have := HC.out.len; omega)
      obtain ⟨wa, hwa⟩ : ∃ wa, wa = wr.alloc (.cells (EN.cs x).toArray 43) := ⟨_, rfl⟩
      have HWA := hid hwa
      have HBA := hid (show Below wr.heap.size wr wa by rw [hwa]; exact bal _)
      have HRW := hid (show Row wa wr.heap.size 43 (EN.cs x) by rw [hwa]; exact Row.new wr _ _)
      have HZA := hid (show wa.heap.size = wr.heap.size + 1 by rw [hwa, World.size_alloc])
      obtain ⟨wb, hwb⟩ : ∃ wb, wb = wa.alloc (.cells #[] 5) := ⟨_, rfl⟩
      have HWB := hid hwb
      have HBB := hid (show Below wr.heap.size wr wb by rw [hwb]; exact bthen HBA.out (bal _))
      have HRB := hid (show Row wb wr.heap.size 43 (EN.cs x) by rw [hwb]; exact HRW.out.alloc _)
      have HFB := hid (HOK.out.below HBB.out)
      have HOE := hid (show wb.ownsRow (wr.heap.size + 1) 5 1 (.slice (some ⟨wr.heap.size + 1, 0, none⟩) 0 0) 0 [] by
        rw [hwb, ← HZA.out]
        exact ⟨rfl, .inr ⟨wa.heap.size, 0, #[], rfl, Nat.le_refl _, heap_alloc_new wa _, Nat.le_refl _, Nat.zero_le _, rfl, rfl⟩⟩)
      have HCD := hid (byt_cel8 HFB.out.byt)
      have HON := hid (show ∀ u ∈ x.data.map B8, u.oneCell' = true from fun u hu => by obtain ⟨c, _, rfl⟩ := List.mem_map.1 hu; rfl)
      have HM1 := hid (show (0 + x.data.length) * 1 ≤ 140737488355328 by have := HFB.out.data; omega)
      have HM2 := hid (show 0 + x.data.length ≤ maxLen by have := HFB.out.data; unfold maxLen; omega)
      have HM3 := hid (show wr.heap.size + 1 ≤ wb.heap.size by rw [hwb, World.size_alloc, HZA.out]; omega)
      have HEXP := hid (show wb = (wr.alloc (.cells #[.string (ba x.path), .int .u8 x.kind, .int .u16 x.mode, .int .u32 x.uid, .int .u32 x.gid, .slice x.a x.data.length x.c, .string (ba x.to)] 43)).alloc (.cells #[] 5) by rw [hwb, hwa]; rfl)
      have HOEX := hid (HEXP.out ▸ HOE.out)
      have HCDX := hid (HEXP.out ▸ HCD.out)
      have HM3X := hid (HEXP.out ▸ HM3.out)
      clear hwa hwb
      go_wp2_with (at_builtin; go_must (first | (refine wpList_ap1 Tryz.underlying40 infoU8b rfl rfl _ _ rfl (wr.heap.size + 1) (.slice (some ⟨wr.heap.size + 1, 0, none⟩) 0 0) 0 [] (x.data.map B8) rfl x.a x.data.length x.c rfl HOEX.out HCDX.out HON.out HFB.out.nil HM1.out HM2.out HM3X.out ?_; intro v1 w2 hown0 hgrow0 hb20; have hown1 := own_ext hown0 (Nat.zero_add _) (List.nil_append _); obtain ⟨na, nc, rfl, hby, hnil, hli, hob⟩ := own_data hown1; rw [← HEXP.out] at hb20; have HOB := hid hob; have hr2 := HRB.out.below hb20 (Nat.lt_succ_self _); have HB2 := hid (HBB.out.trans (hb20.mono (Nat.le_succ _))); have HL := hid hli; have HFY := hid (show EnOk w2 { x with a := na, c := nc } from ⟨hby, hnil, HFB.out.path, HFB.out.to, HFB.out.data, HFB.out.mode⟩); have s0 := (show w2.cell? ⟨wr.heap.size, 0, none⟩ = some (.string (ba x.path)) from hr2.cell' 0); have s1 := (show w2.cell? ⟨wr.heap.size, 1, none⟩ = some (.int .u8 x.kind) from hr2.cell' 1); have s2 := (show w2.cell? ⟨wr.heap.size, 2, none⟩ = some (.int .u16 x.mode) from hr2.cell' 2); have s3 := (show w2.cell? ⟨wr.heap.size, 3, none⟩ = some (.int .u32 x.uid) from hr2.cell' 3); have s4 := (show w2.cell? ⟨wr.heap.size, 4, none⟩ = some (.int .u32 x.gid) from hr2.cell' 4); have s5 := (show w2.cell? ⟨wr.heap.size, 5, none⟩ = some (.slice x.a x.data.length x.c) from hr2.cell' 5); have s6 := (show w2.cell? ⟨wr.heap.size, 6, none⟩ = some (.string (ba x.to)) from hr2.cell' 6); have f5 := hr2.frozen 5; have hlB := hr2.lt; have HV := hid (own_ne HC.out.own (.inr (Nat.le_refl _))); have HO3 := hid (own_setOther (own_below HC.out.own HB2.out) HV.out (.slice na x.data.length nc) (o := 5)); have HG := hid (show w2.heap.size = (w2.setCell ⟨wr.heap.size, 5, none⟩ (.slice na x.data.length nc)).heap.size by simp); have HZ3 := hid (show w.heap.size ≤ (w2.setCell ⟨wr.heap.size, 5, none⟩ (.slice na x.data.length nc)).heap.size by have h1 := HC.out.below.size; have h2 := HB2.out.size; simp; omega); clear hr2 hby hnil hli hob hown0 hown1 hgrow0 hb20) | (refine wpList_app7 rfl _ _ rfl w.heap.size (.slice av ys.length cv) ys { x with a := na, c := nc } rfl w2.heap.size HG.out rfl HO3.out HLN.out HZ3.out ?_; intro v' w9 hown hgrow hat; have HC9 := hid (Cpe.step HC.out HLT.out HXX.out HB2.out HFY.out rfl HL.out HOB.out hown hgrow hat); clear hown hgrow hat)))
      go_roundw
      case rel => exact ⟨k + 1, ys ++ [{ x with a := na, c := nc }], by omega, by go_num, HC9.out⟩
      case measure => simp [intOf]; omega
    · have d1 : decide ((k : Int) < (xs.length : Int)) = false := by simp; omega
      have d1n : decide (k < xs.length) = false := by simp; omega
      obtain rfl : k = xs.length := by omega
      go_wp2_with fail
      go_ret
      exact ⟨_, ys, rfl, HC.out⟩
end Go.Proofs.YtfaohejdaabalaaGreatDoor
namespace Go.Proofs.YtfaohejdaabalaaGreatDoor
open Go.RowKit Go.Sort Go.Shelf Go.WideMaps Go.Maps Go.WideShapes Go.WideElems Go.MapKept Go.ChangeMaps
attribute [local go_sem] Oper.semAt_some

def run8 (rd : Int → Int → List UInt8 × Int) (st : S8) (l : List O8) : S8 := l.foldl (does8 rd) st
theorem run8_snoc (rd : Int → Int → List UInt8 × Int) (st : S8) (l : List O8) (o : O8) : run8 rd st (l ++ [o]) = does8 rd (run8 rd st l) o := by simp [run8, List.foldl_append]
/-- What a run keeps. -/
structure Ran (rd : Int → Int → List UInt8 × Int) (st st' : S8) (ex : List Nat) (k : Nat) : Prop where
  good : Good rd st'.s (st'.h ++ ex)
  len : st'.s.fs.length = st.s.fs.length
  tn : st'.s.tn ≤ st.s.tn + k
  ll : st'.l.length ≤ st.l.length + k
  hh : st'.h.length ≤ st.h.length + k
theorem run8_ran {rd : Int → Int → List UInt8 × Int} {st : S8} {ex : List Nat} (G : Good rd st.s (st.h ++ ex)) (hr : ∀ i p, (rd i p).1.length ≤ 4096) (l : List O8) : Ran rd st (run8 rd st l) ex l.length := by
  rcases l.eq_nil_or_concat with rfl | ⟨e, x, rfl⟩
  · exact ⟨G, rfl, Nat.le_refl _, Nat.le_refl _, Nat.le_refl _⟩
  · have ih := run8_ran G hr e
    have h := does8_did x ih.good hr
    rw [List.concat_eq_append, run8_snoc, List.length_append, List.length_singleton]
    exact ⟨h.good, h.len.trans ih.len, by have := h.tn; have := ih.tn; omega, by have := h.ll; have := ih.ll; omega, by have := h.hh; have := ih.hh; omega⟩
termination_by l.length
decreasing_by simp_all
def o8C (o : O8) : List Value := [.int .i64 o.kind, .int .i64 o.i, .int .i64 o.p, .int .i64 o.n]
/-- What is done, as an argument. -/
structure Ops8 (w : World) (a : Option Addr) (l : List O8) : Prop where
  rows : Rk w 4 a l.length (l.map o8C)
  ok : ∀ o ∈ l, I64 o.i ∧ I64 o.p
theorem Ops8.below {w w' : World} {a : Option Addr} {l : List O8} (h : Ops8 w a l) (hb : Below w.heap.size w w') : Ops8 w' a l := ⟨h.rows.below' hb, h.ok⟩
/-- A cache at its begin. -/
def st08 (n : Nat) : S8 := ⟨⟨List.replicate n fr0, [], 0⟩, [], []⟩
theorem good08 (rd : Int → Int → List UInt8 × Int) (n : Nat) : Good rd (st08 n).s ((st08 n).h ++ []) := good0 rd n
set_option maxRecDepth 100000 in
theorem poolBad_any (n : Int) (w : World) (hn : n < 1 ∨ 1024 < n) : Calls Tryz.prog 12 #[.int .i64 n] w fun e w' => e = .returned (.tuple #[.pointer none, .int .i64 1]) ∧ w = w' := by
  by_cases c1 : n < 1
  · have d1 : decide (n < 1) = true := decide_eq_true c1
    clear c1 hn
    go_enter Tryz.func12, Tryz.ntmps12
    go_wp2_with fail
    go_ret2
    exact ⟨rfl, rfl⟩
  · have d1 : decide (n < 1) = false := decide_eq_false c1
    have d2 : decide (1024 < n) = true := by simp; omega
    clear c1 hn
    go_enter Tryz.func12, Tryz.ntmps12
    go_wp2_with fail
    go_ret2
    exact ⟨rfl, rfl⟩
/-- Each node is a file, a directory or a link. -/
def KOk (L : List ND) : Prop := ∀ i, i < L.length → (L.getD i default).kind = 1 ∨ (L.getD i default).kind = 2 ∨ (L.getD i default).kind = 3
theorem KOk.add {L : List ND} (h : KOk L) (j : Nat) (nm : BL) (nd : ND) (hk : nd.kind = 1 ∨ nd.kind = 2 ∨ nd.kind = 3) : KOk (addN L j nm nd) := by
  intro i hi
  rw [addN_len] at hi
  by_cases e : i = L.length
  · subst e; rw [addN_new]; exact hk
  · obtain ⟨ns, e1, _⟩ := addN_same L j nm nd (show i < L.length by omega)
    rw [e1]
    exact h i (by omega)
theorem addE_kok {L : List ND} (h : KOk L) (x : EN) : KOk (addE L x).2 := by
  unfold addE
  split
  · exact h
  · rename_i ds e
    have hx : x.kind = 1 ∨ x.kind = 2 ∨ x.kind = 3 := by
      by_cases hb : entB x
      · have := hb.1
        unfold rightK at this
        by_cases k1 : x.kind = 1
        · exact .inl k1
        · by_cases k2 : x.kind = 2
          · exact .inr (.inl k2)
          · by_cases k3 : x.kind = 3
            · exact .inr (.inr k3)
            · rw [if_neg k1, if_neg k2, if_neg k3] at this; cases this
      · rw [entP_no hb] at e; cases e
    split
    · exact h
    · split
      · exact h
      · split
        · exact h
        · split
          · exact h.add _ _ _ hx
          · exact h
theorem newE_kok : ∀ (xs : List EN) {L : List ND} (i : Nat), KOk L → KOk (newE L i xs).2.2
  | [], _, _, h => h
  | x :: xs, L, i, h => by
    by_cases h1 : (addE L x).1 = 0
    · rw [newE_go h1]; exact newE_kok xs _ (addE_kok h x)
    · rw [newE_no h1]; exact h
theorem kok0 : KOk [root0] := by
  intro i hi
  obtain rfl : i = 0 := by simpa using hi
  exact .inr (.inl rfl)
end Go.Proofs.YtfaohejdaabalaaGreatDoor
namespace Go.Proofs.YtfaohejdaabalaaGreatDoor
open Go.RowKit Go.Sort Go.Shelf Go.WideMaps Go.Maps Go.WideShapes Go.WideElems Go.MapKept Go.ChangeMaps
attribute [local go_sem] Oper.semAt_some

def u8I (x : Int) : Value := .int .u8 x
set_option maxHeartbeats 1000000 in
theorem same8_any (a b : Option Addr) (ca cb : Nat) (l : List Int) (w : World) (hA : Cel w a l.length (l.map u8I)) (hB : Cel w b l.length (l.map u8I)) (hl : l.length ≤ 1000000) :
    Calls Tryz.prog 40 #[.slice a l.length ca, .slice b l.length cb] w fun e w' => e = .returned (.bool true) ∧ ∃ k, w' = w.drewN k := by
  have HA := hid hA
  have HB := hid hB
  clear hA hB
  go_enter Tryz.func40, Tryz.ntmps40
  go_wp2_with fail
  go_loopw [5] (fun i wr => ∃ k q : Nat, k ≤ l.length ∧ i = .int .i64 k ∧ wr = w.drewN q) (fun i _ => l.length - (intOf i).toNat)
  case atStart => exact ⟨0, 0, Nat.zero_le _, rfl, rfl⟩
  case round =>
    obtain ⟨k, q, hk, rfl, rfl⟩ := hrel
    by_cases hlt : k < l.length
    · have d1 : decide ((k : Int) < (l.length : Int)) = true := by simp; omega
      have d1n : decide (k < l.length) = true := by simp; omega
      obtain ⟨ba, oa, rfl, hat⟩ := HA.out.some_of (by simp; omega)
      obtain ⟨bb, ob, rfl, hbt⟩ := HB.out.some_of (by simp; omega)
      have hca := hat k (by simpa using hlt)
      have hcb := hbt k (by simpa using hlt)
      rw [List.getElem_map] at hca hcb
      unfold u8I at hca hcb
      have hla := World.block_lt_of_cell? _ _ hca
      have hlb := World.block_lt_of_cell? _ _ hcb
      clear hat hbt
      generalize l[k] = y at *
      have ez : (0 : Int) ≤ (k : Int) := by omega
      have eb : (k : Int) < (l.length : Int) := by omega
      go_wp2_with fail
      go_quiet (fail)
      go_wp2_with fail
      go_roundw
      case rel => exact ⟨k + 1, q + nq, by omega, by go_num, rfl⟩
      case measure => simp [intOf]; omega
    · have d1 : decide ((k : Int) < (l.length : Int)) = false := by simp; omega
      have d1n : decide (k < l.length) = false := by simp; omega
      go_wp2_with fail
      go_ret
      exact ⟨rfl, q, rfl⟩
theorem load_all8 {fs : List FR} {k : Nat} (hok : FsOk fs) (hk : k < fs.length) (hc : fs[k].cnt ≠ 0) : loadE fs k 0 4096 = 0 ∧ loadL fs k 0 4096 = fs[k].bs := by
  have ht : takE fs (k : Int) = 0 := by
    unfold takE
    rw [cntF_at hk, if_neg hc]
  unfold loadE loadL
  rw [ht, show withinB 0 4096 = true by decide, Int.toNat_natCast, getF_at _ _ _ hk]
  refine ⟨rfl, ?_⟩
  have := hok _ (List.getElem_mem hk)
  simp only [if_true]
  rw [show (0 : Int).toNat = 0 from rfl, show (4096 : Int).toNat = 4096 from rfl, List.drop_zero, List.take_of_length_le (by omega)]
/-- What a page that is read is of. -/
theorem rdP16_ok {L : List ND} (hk : KOk L) {i pg : Int} (h : (rdP16 L i pg).2 = 0) : ∃ k : Nat, i = (k : Int) ∧ k < L.length ∧ (L.getD k default).kind = 1 := by
  unfold rdP16 readL at h
  split at h
  · cases h
  · rename_i h1
    split at h
    · cases h
    · rename_i h2
      split at h
      · cases h
      · rename_i h3
        obtain ⟨k, rfl⟩ := Int.eq_ofNat_of_zero_le (show 0 ≤ i by omega)
        rw [Int.toNat_natCast] at h2 h3
        have hl : k < L.length := by omega
        refine ⟨k, rfl, hl, ?_⟩
        rcases hk k hl with e | e | e
        · exact e
        · exact absurd e h2
        · exact absurd (.inl e) h3
/-- A page that a slot is of is got anew as it is. -/
theorem getC_hit {rd : Int → Int → List UInt8 × Int} {s : CC} {hx : List Nat} (G : Good rd s hx) {y : SLO} (hy : y ∈ s.sl) : ∃ s2, getC rd s y.i y.p = (y.f, 0, s2) ∧ s2.fs = s.fs := by
  obtain ⟨h1, h2, h3⟩ := G.page y hy
  unfold getC
  rw [if_neg (by omega), if_neg (by simpa using h3), look_of G hy]
  exact ⟨_, rfl, rfl⟩
theorem b8_u8 (l : List UInt8) : l.map B8 = (b2i l).map u8I := by
  unfold b2i
  rw [List.map_map]
  rfl
theorem wpList_apU8 {w : World} {ops : Array Oper} {rest : List Oper} {o : Oper} {a : Act} {Q : Exit → Act → World → Prop} (hgd : o.guard = none) (s x : Operand)
    (ho : o.op = .call { callee := .builtin .append, args := #[s, x], argTypes := #[40, 40] })
    (base : Nat) (v : Value) (n : Nat) (xs news : List Value) (hs : a.eval s = v) (ad : Addr) (m c : Nat) (hx : a.eval x = .slice (some ad) m c) (hown : w.ownsRow base 5 1 v n xs) (hy : Cel w (some ad) m news) (hone : ∀ u ∈ news, u.oneCell' = true) (hn : n + m ≤ 1000000000) (hbase : base ≤ w.heap.size)
    (h : ∀ v' w', w'.ownsRow base 5 1 v' (n + m) (xs ++ news) → w.grownBy w' v.ownBlock → (v'.ownBlock = v.ownBlock ∨ v'.ownBlock = some w.heap.size) → wpList Tryz.prog ops Q rest (a.put o.dst v') w') :
    wpList Tryz.prog ops Q (o :: rest) a w := by
  obtain ⟨i0, hi0, hz0, hz1, hz2⟩ := info_parts infoU8b
  refine wpList_append_own_at w hgd s x _ ho base _ i0 _ 1 1 Tryz.underlying40 hi0 hz0 hz1 hz2 rfl (by decide) v n _ hs hown ad m c news hx (by have := hy.hlen; omega) hy.news hone (by unfold maxLen; omega) (by omega) hbase ?_
  intro v' w' h1 h2 _ h4
  exact h v' w' h1 h2 h4
structure PadF (W : World) (B : Nat) (v : Value) (n : Nat) (xs : List Value) (W1 : World) : Prop where
  own : W1.ownsRow B 5 1 v n xs
  cel : Cel W1 (some ⟨W.heap.size, 0, none⟩) 1 [B8 0]
  size : B ≤ W1.heap.size
theorem pad_f {W : World} {B : Nat} {v : Value} {n : Nat} {xs : List Value} (ho : W.ownsRow B 5 1 v n xs) (hB : B ≤ W.heap.size) : PadF W B v n xs (W.alloc (.cells #[.int .u8 0] 5)) :=
  ⟨ho.alloc _, by have hh := Row.new W 5 [B8 0]; exact ⟨rfl, fun i hi => ⟨_, 0, rfl, by rw [Nat.zero_add]; exact hh.cell i hi⟩⟩, by rw [World.size_alloc]; exact Nat.le_succ_of_le hB⟩
theorem pad_b {W W1 w' w0 : World} {B : Nat} {v : Value} {n : Nat} {xs : List Value} (h : PadF W B v n xs W1) (hb : Below B w0 W1) (hg : W1.grownBy w' v.ownBlock) : Below B w0 w' :=
  (EX.of_grown (S := fun k => B ≤ k) hg (fun k e _ => (h.own.lt k e).1)).below hb (fun _ hk => hk) h.size
def slN (v : Value) : Nat := match v with
  | .slice _ n _ => n
  | _ => 0
end Go.Proofs.YtfaohejdaabalaaGreatDoor
