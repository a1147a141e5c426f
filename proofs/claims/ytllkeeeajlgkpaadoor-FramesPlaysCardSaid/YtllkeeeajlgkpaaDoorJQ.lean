
/- The reference's pool with its bytes; taken, Take, Up, Down. -/
import Derived.Test.YtllkeeeajlgkpaaDoorJD
import Derived.Test.YtllkeeeajlgkpaaDoorJK
namespace Go.Proofs.YtllkeeeajlgkpaaDoor
open Go.RowKit Go.Sort

/-- All but two blocks, and one that may be none, stand. -/
structure E3 (w w' : World) (a b : Nat) (X : Option Nat) : Prop where
  os : w'.os = w.os
  tape : w'.tape = w.tape
  output : w'.output = w.output
  size : w.heap.size ≤ w'.heap.size
  block : ∀ k, k < w.heap.size → k ≠ a → k ≠ b → some k ≠ X → w'.heap[k]? = w.heap[k]?
section
variable {w w' w2 : World} {a b : Nat} {X : Option Nat}
theorem E3.refl (w : World) (a b : Nat) (X : Option Nat) : E3 w w a b X := ⟨rfl, rfl, rfl, Nat.le_refl _, fun _ _ _ _ _ => rfl⟩
theorem E3.trans (h : E3 w w' a b X) (k : E3 w' w2 a b X) : E3 w w2 a b X :=
  ⟨k.os.trans h.os, k.tape.trans h.tape, k.output.trans h.output, Nat.le_trans h.size k.size, fun j hj h1 h2 h3 => (k.block j (Nat.lt_of_lt_of_le hj h.size) h1 h2 h3).trans (h.block j hj h1 h2 h3)⟩
theorem E3.of_below (h : Below w.heap.size w w') : E3 w w' a b X := ⟨h.os, h.tape, h.output, h.size, fun k hk _ _ _ => h.block k hk⟩
theorem E3.of_ex (h : Ex w w' a b) : E3 w w' a b X := ⟨h.os, h.tape, h.output, h.size, fun k hk h1 h2 _ => h.block k hk h1 h2⟩
theorem E3.of_grown (h : w.grownBy w' X) : E3 w w' a b X := ⟨h.os, h.tape, h.output, h.size, fun k hk _ _ h3 => h.block k hk h3⟩
theorem E3.below {B : Nat} {w0 : World} (h : E3 w w' a b X) (hb : Below B w0 w) (ha : B ≤ a) (hb' : B ≤ b) (hX : ∀ q, X = some q → B ≤ q) (hB : B ≤ w.heap.size) : Below B w0 w' :=
  hb.trans ⟨h.os, h.tape, h.output, h.size, fun k hk => h.block k (by omega) (by omega) (by omega) (fun e => by have := hX k e.symm; omega)⟩
theorem E3.row {g : Nat} {E : TypeId} {cs : List Value} (h : E3 w w' a b X) (hr : Row w g E cs) (h1 : g ≠ a) (h2 : g ≠ b) (h3 : some g ≠ X) : Row w' g E cs := ⟨by rw [h.block g hr.lt h1 h2 h3]; exact hr.heap⟩
theorem E3.own {base E size n : Nat} {v : Value} {xs : List Value} (h : E3 w w' a b X) (ho : w.ownsRow base E size v n xs) (h1 : v.ownBlock ≠ some a) (h2 : v.ownBlock ≠ some b) (h3 : ∀ q, v.ownBlock = some q → X ≠ some q) : w'.ownsRow base E size v n xs := by
  refine ⟨ho.1, ?_⟩
  rcases ho.2 with hn | ⟨g, cap, cur, rfl, hb, hg, r⟩
  · exact .inl hn
  · exact .inr ⟨g, cap, cur, rfl, hb, by rw [h.block g (Array.getElem?_eq_some_iff.1 hg).1 (by rintro rfl; exact h1 rfl) (by rintro rfl; exact h2 rfl) (fun e => h3 g rfl e.symm)]; exact hg, r⟩
end

/-- The reference's pool, and each frame's bytes in memory of its own, apart from all others'. -/
structure RS (w : World) (base p a b : Nat) (cs : List Int) (vs : List Value) (Ls : List (List Int)) : Prop where
  rp : RP w p a b cs vs
  ll : vs.length = Ls.length
  own : ∀ i (h : i < vs.length) (h2 : i < Ls.length), w.ownsRow base 5 1 vs[i] Ls[i].length (Ls[i].map (Value.int .u8))
  ap : ∀ i j (hi : i < vs.length) (hj : j < vs.length), i ≠ j → ∀ q, vs[i].ownBlock = some q → vs[j].ownBlock ≠ some q
  c0 : ∀ c ∈ cs, 0 ≤ c
  lim : ∀ L ∈ Ls, L.length ≤ 4096
  pB : base ≤ p
  aB : base ≤ a
  bB : base ≤ b
section
variable {w w' : World} {base p a b : Nat} {cs : List Int} {vs : List Value} {Ls : List (List Int)}
theorem RS.ne (H : RS w base p a b cs vs Ls) : p ≠ a ∧ p ≠ b ∧ a ≠ b := ⟨row_tys H.rp.pool H.rp.cnts (by decide), row_tys H.rp.pool H.rp.bys (by decide), row_tys H.rp.cnts H.rp.bys (by decide)⟩
theorem own_not {w : World} {base E n g T : Nat} {v : Value} {xs cs : List Value} (h : w.ownsRow base E 1 v n xs) (hr : Row w g T cs) (hT : T ≠ E) : v.ownBlock ≠ some g := fun e => own_row_ne h hr hT e.symm
theorem RS.below (H : RS w base p a b cs vs Ls) (hb : Below w.heap.size w w') : RS w' base p a b cs vs Ls :=
  ⟨H.rp.below hb, H.ll, fun i h h2 => own_below (H.own i h h2) hb, H.ap, H.c0, H.lim, H.pB, H.aB, H.bB⟩
/-- It stands while rows of other types turn. -/
theorem RS.ex {g h : Nat} (H : RS w base p a b cs vs Ls) (hx : Ex w w' g h) {G K : TypeId} {gs hs : List Value} (hg : Row w g G gs) (hh : Row w h K hs)
    (t1 : G ≠ 66 ∧ G ≠ 3 ∧ G ≠ 30 ∧ G ≠ 5) (t2 : K ≠ 66 ∧ K ≠ 3 ∧ K ≠ 30 ∧ K ≠ 5) : RS w' base p a b cs vs Ls :=
  ⟨H.rp.ex hx ⟨(row_tys hg H.rp.pool t1.1).symm, (row_tys hh H.rp.pool t2.1).symm⟩ ⟨(row_tys hg H.rp.cnts t1.2.1).symm, (row_tys hh H.rp.cnts t2.2.1).symm⟩ ⟨(row_tys hg H.rp.bys t1.2.2.1).symm, (row_tys hh H.rp.bys t2.2.2.1).symm⟩,
    H.ll, fun i h1 h2 => hx.own (H.own i h1 h2) (own_not (H.own i h1 h2) hg t1.2.2.2) (own_not (H.own i h1 h2) hh t2.2.2.2), H.ap, H.c0, H.lim, H.pB, H.aB, H.bB⟩
/-- A count turned. -/
theorem RS.setCnt (H : RS w base p a b cs vs Ls) (k : Nat) (c : Int) (hc : 0 ≤ c) : RS (w.setCell ⟨a, k, none⟩ (.int .i64 c)) base p a b (cs.set k c) vs Ls := by
  obtain ⟨n1, n2, n3⟩ := H.ne
  have hx : Ex w (w.setCell ⟨a, k, none⟩ (.int .i64 c)) a a := Ex.set w a k _ (.inl rfl)
  refine ⟨⟨by rw [List.length_set]; exact hx.row H.rp.pool n1 n1, by rw [List.map_set]; exact H.rp.cnts.set k _, hx.row H.rp.bys (Ne.symm n3) (Ne.symm n3), by rw [List.length_set]; exact H.rp.vl, by rw [List.length_set]; exact H.rp.n2⟩, H.ll, fun i h1 h2 => ?_, H.ap, fun x hx => ?_, H.lim, H.pB, H.aB, H.bB⟩
  · exact hx.own (H.own i h1 h2) (own_not (H.own i h1 h2) H.rp.cnts (by decide)) (own_not (H.own i h1 h2) H.rp.cnts (by decide))
  · rcases List.mem_or_eq_of_mem_set hx with hx | rfl
    · exact H.c0 x hx
    · exact hc
/-- A frame's bytes turned: v' lies in memory of its own. -/
theorem RS.setBy (H : RS w base p a b cs vs Ls) (k : Nat) (hk : k < vs.length) (v' : Value) (L : List Int) (hv : w.ownsRow base 5 1 v' L.length (L.map (Value.int .u8))) (hL : L.length ≤ 4096)
    (hap : ∀ j (hj : j < vs.length), j ≠ k → ∀ q, v'.ownBlock = some q → vs[j].ownBlock ≠ some q) : RS (w.setCell ⟨b, k, none⟩ v') base p a b cs (vs.set k v') (Ls.set k L) := by
  obtain ⟨n1, n2, n3⟩ := H.ne
  have hx : Ex w (w.setCell ⟨b, k, none⟩ v') b b := Ex.set w b k _ (.inl rfl)
  refine ⟨⟨hx.row H.rp.pool n2 n2, hx.row H.rp.cnts n3 n3, H.rp.bys.set k _, by rw [List.length_set]; exact H.rp.vl, H.rp.n2⟩, by rw [List.length_set, List.length_set]; exact H.ll, fun i h1 h2 => ?_, fun i j hi hj hij q => ?_, H.c0, fun x hx => ?_, H.pB, H.aB, H.bB⟩
  · rw [List.length_set] at h1 h2
    simp only [List.getElem_set]
    by_cases c : k = i
    · rw [if_pos c, if_pos c]
      exact hx.own hv (own_not hv H.rp.bys (by decide)) (own_not hv H.rp.bys (by decide))
    · rw [if_neg c, if_neg c]
      exact hx.own (H.own i h1 h2) (own_not (H.own i h1 h2) H.rp.bys (by decide)) (own_not (H.own i h1 h2) H.rp.bys (by decide))
  · rw [List.length_set] at hi hj
    simp only [List.getElem_set]
    by_cases c : k = i
    · rw [if_pos c, if_neg (show ¬ k = j from fun e => hij (by rw [← c, e]))]
      exact hap j hj (fun e => hij (by rw [← c, e])) q
    · rw [if_neg c]
      by_cases c2 : k = j
      · rw [if_pos c2]
        intro e e2
        exact hap i hi (fun e3 => c e3.symm) q e2 e
      · rw [if_neg c2]
        exact H.ap i j hi hj hij q
  · rcases List.mem_or_eq_of_mem_set hx with hx | rfl
    · exact H.lim x hx
    · exact hL
end
def rtk (cs : List Int) (f : Int) : Bool := decide (0 < rcnt cs f)
theorem rtaken_any (p a b : Nat) (cs : List Int) (vs : List Value) (f : Int) (w : World) (H : RP w p a b cs vs) :
    Calls Tryd.prog 37 #[.pointer (some ⟨p, 0, none⟩), .int .i64 f] w fun e w' => e = .returned (.bool (rtk cs f)) ∧ w = w' := by
  obtain ⟨p0, p1⟩ := H.cells
  have hlp := H.pool.lt
  have hla := H.cnts.lt
  by_cases c0 : 0 ≤ f
  · by_cases c1 : f < cs.length
    · obtain ⟨k, rfl⟩ := Int.eq_ofNat_of_zero_le c0
      have hk : k < cs.length := by omega
      have hc := H.cnt k hk
      have HE := hid (show rtk cs (k : Int) = decide (0 < cs[k]) by unfold rtk rcnt; rw [if_pos ⟨c0, c1⟩, Int.toNat_natCast, getF_at _ _ _ hk])
      generalize cs[k] = x at *
      have b1 : decide ((0 : Int) ≤ (k : Int)) = true := by simp
      have b2 : decide ((k : Int) < (cs.length : Int)) = true := by simp; omega
      have b3 : decide (k < cs.length) = true := by simp; omega
      clear H
      go_enter Tryd.func37, Tryd.ntmps37
      go_wp2_with fail
      go_ret
      rw [HE.out]
      exact ⟨rfl, rfl⟩
    · have HE := hid (show rtk cs f = false by unfold rtk rcnt; rw [if_neg (fun h => c1 h.2)]; rfl)
      have b1 : decide (0 ≤ f) = true := by simp; omega
      have b2 : decide (f < (cs.length : Int)) = false := by simp; omega
      clear H
      go_enter Tryd.func37, Tryd.ntmps37
      go_wp2_with fail
      go_ret
      rw [HE.out]
      exact ⟨rfl, rfl⟩
  · have HE := hid (show rtk cs f = false by unfold rtk rcnt; rw [if_neg (fun h => c0 h.1)]; rfl)
    have b1 : decide (0 ≤ f) = false := by simp; omega
    clear H
    go_enter Tryd.func37, Tryd.ntmps37
    go_wp2_with fail
    go_ret
    rw [HE.out]
    exact ⟨rfl, rfl⟩
def rupS (cs : List Int) (f d : Int) : List Int := if rtk cs f then cs.set f.toNat (rcnt cs f + d) else cs
theorem rtk_is {cs : List Int} {f : Int} (h : rtk cs f = true) : ∃ k : Nat, ∃ hk : k < cs.length, f = (k : Int) ∧ rcnt cs f = cs[k] ∧ 0 < cs[k] := by
  unfold rtk rcnt at h
  by_cases c : 0 ≤ f ∧ f < cs.length
  · obtain ⟨k, rfl⟩ := Int.eq_ofNat_of_zero_le c.1
    have hk : k < cs.length := by omega
    rw [if_pos c, Int.toNat_natCast, getF_at _ _ _ hk] at h
    exact ⟨k, hk, rfl, by unfold rcnt; rw [if_pos c, Int.toNat_natCast, getF_at _ _ _ hk], by simpa using h⟩
  · rw [if_neg c] at h; simp at h
set_option maxHeartbeats 1000000 in
theorem rup_any (base p a b : Nat) (cs : List Int) (vs : List Value) (Ls : List (List Int)) (f : Int) (w : World) (H : RS w base p a b cs vs Ls) (hM : ∀ c ∈ cs, c < 9223372036854775807) :
    Calls Tryd.prog 18 #[.pointer (some ⟨p, 0, none⟩), .int .i64 f] w fun e w' => e = .returned (.int .i64 (if rtk cs f then 0 else 1)) ∧ RS w' base p a b (rupS cs f 1) vs Ls ∧ E3 w w' a b none := by
  have HH := hid H
  have HL := hid (rtaken_any p a b cs vs f w H.rp)
  clear H
  cases ht : rtk cs f with
  | false =>
    have HF := hid (show rupS cs f 1 = cs by unfold rupS; rw [ht]; rfl)
    rw [ht] at HL
    go_enter Tryd.func18, Tryd.ntmps18
    go_wp2_with fail
    refine (HL.out).mono ?_
    rintro e' w' ⟨rfl, rfl⟩
    go_wp2_with fail
    go_ret
    rw [HF.out]
    exact ⟨rfl, HH.out, E3.refl _ _ _ _⟩
  | true =>
    rw [ht] at HL
    obtain ⟨k, hk, rfl, hc, hpos⟩ := rtk_is ht
    have HF := hid (show rupS cs (k : Int) 1 = cs.set k (cs[k] + 1) by unfold rupS; rw [ht, hc]; rfl)
    obtain ⟨p0, p1⟩ := HH.out.rp.cells
    have hlp := HH.out.rp.pool.lt
    have hla := HH.out.rp.cnts.lt
    have hx := HH.out.rp.cnt k hk
    have hfz := HH.out.rp.cnts.frozen k
    have hx1 := hM _ (List.getElem_mem hk)
    have HS := hid (HH.out.setCnt k (cs[k] + 1) (by omega))
    have ez : (0 : Int) ≤ (k : Int) := by omega
    have eb : (k : Int) < (cs.length : Int) := by omega
    clear ht hc hM
    generalize cs[k] = x at *
    have ew := IntWalk.wrap64_in (x + 1) ⟨by omega, by omega⟩
    go_enter Tryd.func18, Tryd.ntmps18
    go_wp2_with fail
    refine (HL.out).mono ?_
    rintro e' w' ⟨rfl, rfl⟩
    go_wp2_with fail
    go_ret
    rw [HF.out]
    exact ⟨rfl, HS.out, E3.of_ex (Ex.set w a k _ (.inl rfl))⟩
set_option maxHeartbeats 1000000 in
theorem rdown_any (base p a b : Nat) (cs : List Int) (vs : List Value) (Ls : List (List Int)) (f : Int) (w : World) (H : RS w base p a b cs vs Ls) (hM : ∀ c ∈ cs, c < 9223372036854775807) :
    Calls Tryd.prog 20 #[.pointer (some ⟨p, 0, none⟩), .int .i64 f] w fun e w' => e = .returned (.int .i64 (if rtk cs f then 0 else 1)) ∧ RS w' base p a b (rupS cs f (-1)) vs Ls ∧ E3 w w' a b none := by
  have HH := hid H
  have HL := hid (rtaken_any p a b cs vs f w H.rp)
  clear H
  cases ht : rtk cs f with
  | false =>
    have HF := hid (show rupS cs f (-1) = cs by unfold rupS; rw [ht]; rfl)
    rw [ht] at HL
    go_enter Tryd.func20, Tryd.ntmps20
    go_wp2_with fail
    refine (HL.out).mono ?_
    rintro e' w' ⟨rfl, rfl⟩
    go_wp2_with fail
    go_ret
    rw [HF.out]
    exact ⟨rfl, HH.out, E3.refl _ _ _ _⟩
  | true =>
    rw [ht] at HL
    obtain ⟨k, hk, rfl, hc, hpos⟩ := rtk_is ht
    have HF := hid (show rupS cs (k : Int) (-1) = cs.set k (cs[k] - 1) by unfold rupS; rw [ht, hc]; rfl)
    obtain ⟨p0, p1⟩ := HH.out.rp.cells
    have hlp := HH.out.rp.pool.lt
    have hla := HH.out.rp.cnts.lt
    have hx := HH.out.rp.cnt k hk
    have hfz := HH.out.rp.cnts.frozen k
    have hx1 := hM _ (List.getElem_mem hk)
    have HS := hid (HH.out.setCnt k (cs[k] - 1) (by omega))
    have ez : (0 : Int) ≤ (k : Int) := by omega
    have eb : (k : Int) < (cs.length : Int) := by omega
    clear ht hc hM
    generalize cs[k] = x at *
    have ew := IntWalk.wrap64_in (x - 1) ⟨by omega, by omega⟩
    go_enter Tryd.func20, Tryd.ntmps20
    go_wp2_with fail
    refine (HL.out).mono ?_
    rintro e' w' ⟨rfl, rfl⟩
    go_wp2_with fail
    go_ret
    rw [HF.out]
    exact ⟨rfl, HS.out, E3.of_ex (Ex.set w a k _ (.inl rfl))⟩
end Go.Proofs.YtllkeeeajlgkpaaDoor
