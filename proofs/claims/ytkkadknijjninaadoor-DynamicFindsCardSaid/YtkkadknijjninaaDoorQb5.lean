
/- dynamic.Parse; what an object that is read keeps to. -/
import Derived.Test.YtkkadknijjninaaDoorQb4
namespace Go.Proofs.YtkkadknijjninaaDoor
open Go.RowKit Go.Sort Go.Shelf Go.WideMaps Go.Maps
attribute [local go_sem] Oper.semAt_some

structure OBok (o : OBJ) : Prop where
  bl : o.bs.length ≤ 1000000000
  cl : o.cs.length ≤ 65
  bu : ∀ x ∈ o.bs, 0 ≤ x ∧ x ≤ 18446744073709551615
  cu : ∀ x ∈ o.cs, 0 ≤ x ∧ x ≤ 18446744073709551615
  sl : o.sy.length ≤ 64
  cs : o.cs.length ≤ o.sy.length + 1
  nm : ∀ s ∈ o.sy, s.name.length ≤ 1000000000
theorem lnk_u {l : BL} {p s : Int} {m : Nat} : ∀ x ∈ rowsL (lnkG l) p s m, 0 ≤ x ∧ x ≤ 18446744073709551615 := by
  intro x hx
  obtain ⟨i, _, rfl⟩ := List.mem_map.1 hx
  exact ⟨wget_u, Int.le_trans wg4 (by decide)⟩
theorem symO_facts {l : BL} {L : List SG} {vals : EL} {s : SYM} (hl : l.length ≤ 1000000000) (h : symO l L vals = .inr s) : s.bs.length ≤ 1000000000 ∧ s.cs.length ≤ 65 ∧ (∀ x ∈ s.bs, 0 ≤ x ∧ x ≤ 18446744073709551615) ∧ (∀ x ∈ s.cs, 0 ≤ x ∧ x ≤ 18446744073709551615) ∧ s.ss.length = s.cs.length := by
  unfold symO at h
  split at h
  · split at h
    · cases h
    · rename_i f _
      have hnb : 0 ≤ wgetV l f 4 := wget_u
      have hnc : 0 ≤ wgetV l (f + 4) 4 := wget_u
      generalize wgetV l f 4 = nb at *
      generalize wgetV l (f + 4) 4 = nc at *
      unfold symF at h
      split at h
      · cases h
      · rename_i hb
        split at h
        · rename_i p q hp hq
          cases h
          have hin := laidO_in hp
          refine ⟨?_, ?_, lnk_u, lnk_u, ?_⟩
          · simp only [symT, rowsL_len]; omega
          · simp only [symT, rowsL_len]; omega
          · simp only [symT, rowsL_len]
        · cases h
  · cases h
    exact ⟨Nat.zero_le _, Nat.zero_le _, fun x hx => (by cases hx), fun x hx => (by cases hx), rfl⟩
theorem textO_len {t x : BL} {p : Int} (h : textO t p = some x) : x.length ≤ t.length := by
  unfold textO at h
  split at h
  · cases h
  · unfold textAt at h
    split at h
    · cases h
    · cases h
      rw [List.length_take, List.length_drop]
      omega
theorem tabO_len {l t : BL} {L : List SG} {vals : EL} (h : tabO l L vals = some t) : t.length ≤ l.length := by
  unfold tabO at h
  split at h
  · split at h
    · cases h
    · cases h
      rw [List.length_take, List.length_drop]
      omega
  · cases h
    exact Nat.zero_le _
theorem symS_name {t : BL} {xs : List RSY} {ts : List SY} (h : symS t xs = some ts) : ∀ s ∈ ts, (∃ p, textO t p = some s.name) ∧ s.bind ≤ 2 := by
  rcases xs.eq_nil_or_concat with rfl | ⟨e, x, rfl⟩
  · cases h; intro s hs; cases hs
  · rw [List.concat_eq_append, symS_snoc] at h
    cases hg : symS t e with
    | none => rw [hg] at h; cases h
    | some us =>
      rw [hg] at h
      have h1 := symS_name hg
      have h2 : symJ t us x = some ts := h
      unfold symJ at h2
      split at h2
      · cases h2
      · rename_i hb
        cases hx : textO t x.name with
        | none => rw [hx] at h2; cases h2
        | some y =>
          rw [hx] at h2
          cases h2
          intro s hs
          rcases List.mem_append.1 hs with hs | hs
          · exact h1 s hs
          · rw [List.mem_singleton] at hs
            subst hs
            exact ⟨⟨_, hx⟩, by show x.bind ≤ 2; omega⟩
termination_by xs.length
decreasing_by simp_all
theorem readO_ok {l : BL} {L : List SG} {nd : List Int} {vals : EL} {o : OBJ} (hl : l.length ≤ 1000000000) (h : readO l L nd vals = .inr o) : OBok o := by
  unfold readO at h
  split at h
  · cases h
  rename_i t ht
  unfold readB at h
  split at h
  · cases h
  rename_i s hs
  unfold readC at h
  split at h
  · cases h
  rename_i rl hrl
  unfold readD at h
  split at h
  · cases h
  rename_i n hn
  split at h
  · cases h
  rename_i sy hsy
  unfold readE at h
  split at h
  · cases h
  cases h
  obtain ⟨h1, h2, h3, h4, h5⟩ := symO_facts hl hs
  have h6 := symS_len hsy
  rw [List.length_drop] at h6
  refine ⟨h1, h2, h3, h4, ?_, ?_, fun x hx => ?_⟩
  · show sy.length ≤ 64; omega
  · show s.cs.length ≤ sy.length + 1; omega
  · obtain ⟨⟨p, hp⟩, _⟩ := symS_name hsy x hx
    exact Nat.le_trans (textO_len hp) (Nat.le_trans (tabO_len ht) hl)
theorem obZ_ok : OBok obZ := ⟨Nat.zero_le _, Nat.zero_le _, fun x hx => (by cases hx), fun x hx => (by cases hx), Nat.zero_le _, Nat.zero_le _, fun x hx => (by cases hx)⟩
theorem parseO_ok {l : BL} {sg : List SG} {o : OBJ} (hl : l.length ≤ 1000000000) (h : parseO l sg = .inr o) : OBok o := by
  unfold parseO at h
  split at h
  · cases h; exact obZ_ok
  split at h
  · cases h
  unfold parseG at h
  split at h
  · cases h
  exact readO_ok hl h
theorem parseO_none {l : BL} {sg : List SG} (h : dynS sg = none) : parseO l sg = .inr obZ := by unfold parseO; rw [h]
theorem Fin7.move {R : Int ⊕ OBJ} {w w' W W' : World} {z : Z7} {er : Int} (h : Fin7 R w w' z er) (hm : ∀ (e size n : Nat) (v : Value) (xs : List Value), w'.ownsRow w.heap.size e size v n xs → W'.ownsRow W.heap.size e size v n xs) : Fin7 R W W' z er := by
  rcases h with h | ⟨o, h1, h2, h3, h4, k0, k3, k4, k5, k6⟩
  · exact .inl h
  · exact .inr ⟨o, h1, h2, h3, h4, hm _ _ _ _ _ k0, hm _ _ _ _ _ k3, hm _ _ _ _ _ k4, hm _ _ _ _ _ k5, hm _ _ _ _ _ k6⟩
structure ParP (R : Int ⊕ OBJ) (w : World) (e : Ending) (w' : World) : Prop where
  ex : ∃ z er, e = .returned (.tuple #[.agg #[.slice z.b0 z.n0 z.k0, .string z.s1, .string z.s2, .slice z.b3 z.n3 z.k3, .slice z.b4 z.n4 z.k4], .int .i64 er]) ∧ Fin7 R w w' z er
  low : Below w.heap.size w w'
def dy0 : List Value := [.slice none 0 0, .string ⟨#[]⟩, .string ⟨#[]⟩, .slice none 0 0, .slice none 0 0]
theorem bset5 {B : Nat} {w w' : World} (h : Below B w w') {b : Nat} (hb : B ≤ b) (u0 u1 u2 u3 u4 : Value) : Below B w (((((w'.setCell ⟨b, 0, none⟩ u0).setCell ⟨b, 1, none⟩ u1).setCell ⟨b, 2, none⟩ u2).setCell ⟨b, 3, none⟩ u3).setCell ⟨b, 4, none⟩ u4) :=
  ((((h.setCell hb u0).setCell hb u1).setCell hb u2).setCell hb u3).setCell hb u4
theorem own_set5 {w : World} {base e size n : Nat} {v : Value} {xs : List Value} (h : w.ownsRow base e size v n xs) {b : Nat} (hb : b < base) (u0 u1 u2 u3 u4 : Value) : (((((w.setCell ⟨b, 0, none⟩ u0).setCell ⟨b, 1, none⟩ u1).setCell ⟨b, 2, none⟩ u2).setCell ⟨b, 3, none⟩ u3).setCell ⟨b, 4, none⟩ u4).ownsRow base e size v n xs :=
  own_setLow (own_setLow (own_setLow (own_setLow (own_setLow h hb u0) hb u1) hb u2) hb u3) hb u4
set_option maxRecDepth 100000 in
set_option maxHeartbeats 8000000 in
theorem Parse_any (ab : Option Addr) (cap : Nat) (l : BL) (typ entry phoff : Int) (a : Option Addr) (c : Nat) (sg : List SG) (w : World) (hs : Sizes w) (hB : Byt w ab l.length l) (hlc : l.length ≤ cap) (hl : l.length ≤ 1000000000) (hS : Sgs w a sg.length sg) (hn : sg.length ≤ 1000000000) (hok : ∀ s ∈ sg, SGok s) :
    Calls Tryd.prog 17 #[.slice ab l.length cap, .agg #[.int .u16 typ, .int .u64 entry, .int .u64 phoff, .slice a sg.length c]] w (ParP (parseO l sg) w) := by
  obtain ⟨W, hW⟩ : ∃ W, W = (w.alloc (.cells #[.int .u16 typ, .int .u64 entry, .int .u64 phoff, .slice a sg.length c] 27)).alloc (.cells #[.slice none 0 0, .string ⟨#[]⟩, .string ⟨#[]⟩, .slice none 0 0, .slice none 0 0] 41) := ⟨_, rfl⟩
  have HW := hid hW
  have HLOW := hid (show Below w.heap.size w W by rw [hW]; exact (bal _).alloc (bal (w := w) _).size _)
  have HRA := hid (show Row W w.heap.size 27 [.int .u16 typ, .int .u64 entry, .int .u64 phoff, .slice a sg.length c] by rw [hW]; exact (Row.new _ _ _).alloc _)
  have HRC := hid (show Row W (w.heap.size + 1) 41 dy0 by
    rw [hW]
    have := Row.new (w.alloc (.cells #[.int .u16 typ, .int .u64 entry, .int .u64 phoff, .slice a sg.length c] 27)) 41 dy0
    rw [World.size_alloc] at this
    exact this)
  have HWZ := hid (show W.heap.size = w.heap.size + 2 by rw [hW, World.size_alloc, World.size_alloc])
  have HPA := hid ((parse_any ab cap l typ entry phoff a c sg W (hs.below HLOW.out) (hB.below' HLOW.out) hlc hl (hS.below' HLOW.out) hn hok).mono (fun e w' h => readP_flat h))
  generalize parseO l sg = R at HPA ⊢
  obtain ⟨x0, x1, x2, x3⟩ := HRA.out.four
  clear hW hs hB hS hl hlc hn hok
  go_enter Tryd.func17, Tryd.ntmps17
  go_wp2_with fail
  rw [← HW.out]
  go_wp2_with fail
  refine HPA.out.mono ?_
  rintro e' w1 ⟨z, er, rfl, hfin, hb1⟩
  have HFIN := hid hfin
  have HB1 := hid hb1
  have HROW := hid (HRC.out.below hb1 HRC.out.lt)
  obtain ⟨q0, q1, q2, q3, q4⟩ := HROW.out.five
  have j0 := HROW.out.frozen 0
  have j1 := HROW.out.frozen 1
  have j2 := HROW.out.frozen 2
  have j3 := HROW.out.frozen 3
  have j4 := HROW.out.frozen 4
  have hql := HROW.out.lt
  have HNZ := hid (show ¬ w.heap.size + 1 = w1.heap.size by omega)
  have HLO1 := hid (HLOW.out.trans (hb1.mono HLOW.out.size))
  clear hb1 hfin x0 x1 x2 x3
  go_wp2_with fail
  refine bodyPost_ret (v := .tuple #[.agg #[.slice z.b0 z.n0 z.k0, .string z.s1, .string z.s2, .slice z.b3 z.n3 z.k3, .slice z.b4 z.n4 z.k4], .int .i64 er]) (by simp [results, Tryd.results17, Tryd.f17, go_sem, q0, q1, q2, q3, q4, hql, HNZ.out]) rfl ⟨⟨z, er, rfl, HFIN.out.move ?_⟩, ?_⟩
  · intro e size n v xs h
    exact (own_from (own_set5 h (by have := HWZ.out; omega) _ _ _ _ _) (base' := w.heap.size) (by have := HWZ.out; omega)).alloc _
  · exact (bset5 HLO1.out (by omega) _ _ _ _ _).alloc (bset5 HLO1.out (by omega) _ _ _ _ _).size _
end Go.Proofs.YtkkadknijjninaaDoor
