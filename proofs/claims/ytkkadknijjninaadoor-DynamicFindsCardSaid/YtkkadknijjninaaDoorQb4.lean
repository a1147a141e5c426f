
/- dynamic.parse. -/
import Derived.Test.YtkkadknijjninaaDoorQb3
import Derived.Test.YtkkadknijjninaaDoorQa2
namespace Go.Proofs.YtkkadknijjninaaDoor
open Go.RowKit Go.Sort Go.Shelf Go.WideMaps Go.Maps
attribute [local go_sem] Oper.semAt_some

def obZ : OBJ := ⟨[], [], [], [], [], [], []⟩
def parseG (l : BL) (sg : List SG) (xs : EL) : Int ⊕ OBJ := match gathR xs with
  | .inl e => .inl e
  | .inr g => readO l (lds sg) g.1 g.2
/-- What parse answers. -/
def parseO (l : BL) (sg : List SG) : Int ⊕ OBJ := match dynS sg with
  | none => .inr obZ
  | some s => match entsL l s with
    | none => .inl 25
    | some xs => parseG l sg xs
theorem untilZ_mem : ∀ {l xs : EL}, untilZ l = some xs → ∀ x ∈ xs, x ∈ l
  | [], _, h => by cases h
  | y :: r, xs, h => by
    unfold untilZ at h
    split at h
    · cases h; intro x hx; cases hx
    · cases hr : untilZ r with
      | none => rw [hr] at h; cases h
      | some ys =>
        rw [hr] at h
        cases h
        intro x hx
        rcases List.mem_cons.1 hx with rfl | hx
        · exact List.mem_cons_self ..
        · exact List.mem_cons_of_mem _ (untilZ_mem hr x hx)
theorem untilZ_len : ∀ {l xs : EL}, untilZ l = some xs → xs.length ≤ l.length
  | [], _, h => by cases h
  | y :: r, xs, h => by
    unfold untilZ at h
    split at h
    · cases h; exact Nat.zero_le _
    · cases hr : untilZ r with
      | none => rw [hr] at h; cases h
      | some ys =>
        rw [hr] at h
        cases h
        have := untilZ_len hr
        simp only [List.length_cons]
        omega
theorem entsL_ok {l : BL} {s : SG} {xs : EL} (hl : l.length ≤ 1000000000) (hs : SGok s) (h : entsL l s = some xs) : xs.length ≤ 1000000000 ∧ ∀ x ∈ xs, 0 ≤ x.1 ∧ x.1 ≤ 18446744073709551615 ∧ 0 ≤ x.2 ∧ x.2 ≤ 18446744073709551615 := by
  unfold entsL at h
  split at h
  · rename_i hc
    have hi := hc.2
    unfold insB at hi
    simp only [decide_eq_true_eq] at hi
    have hz := hs.z0
    refine ⟨?_, fun x hx => ?_⟩
    · have := untilZ_len h
      rw [rowsL_len] at this
      omega
    · have := untilZ_mem h x hx
      unfold rowsL at this
      obtain ⟨i, _, rfl⟩ := List.mem_map.1 this
      exact ⟨wget_u, wg8, wget_u, wg8⟩
  · cases h
theorem gstep_ok {P : Int → Prop} {s s' : List Int × EL} {x : Int × Int} (hx : P x.2) (h1 : ∀ a ∈ s.1, P a) (h2 : ∀ a ∈ s.2, P a.2) (h : gstep s x = some s') : (∀ a ∈ s'.1, P a) ∧ ∀ a ∈ s'.2, P a.2 := by
  unfold gstep at h
  split at h
  · cases h; exact ⟨h1, h2⟩
  · split at h
    · cases h
      refine ⟨fun a ha => ?_, h2⟩
      rcases List.mem_append.1 ha with ha | ha
      · exact h1 a ha
      · rw [List.mem_singleton.1 ha]; exact hx
    · split at h
      · cases h
      · cases h
        refine ⟨h1, fun a ha => ?_⟩
        rcases List.mem_append.1 ha with ha | ha
        · exact h2 a ha
        · rw [List.mem_singleton.1 ha]; exact hx
theorem gathK_ok {P : Int → Prop} {xs : EL} {s : List Int × EL} (hx : ∀ x ∈ xs, P x.2) (h : gathK xs = some s) : (∀ a ∈ s.1, P a) ∧ ∀ a ∈ s.2, P a.2 := by
  rcases xs.eq_nil_or_concat with rfl | ⟨e, x, rfl⟩
  · cases h; exact ⟨fun a ha => (nomatch ha), fun a ha => (nomatch ha)⟩
  · rw [List.concat_eq_append] at h hx
    rw [gathK_snoc] at h
    cases hg : gathK e with
    | none => rw [hg] at h; cases h
    | some t =>
      rw [hg] at h
      obtain ⟨i1, i2⟩ := gathK_ok (fun y hy => hx y (List.mem_append_left _ hy)) hg
      exact gstep_ok (hx x (List.mem_append_right _ (List.mem_singleton_self _))) i1 i2 h
termination_by xs.length
decreasing_by simp_all
theorem gathR_ok {xs : EL} {g : List Int × EL} (hx : ∀ x ∈ xs, 0 ≤ x.2 ∧ x.2 ≤ 18446744073709551615) (h : gathR xs = .inr g) : g.1.length ≤ 8 ∧ (∀ x ∈ g.1, 0 ≤ x ∧ x ≤ 18446744073709551615) ∧ ValOk g.2 := by
  unfold gathR at h
  split at h
  · cases h
  · rename_i s hs
    split at h
    · cases h
    · split at h
      · cases h
      · cases h
        obtain ⟨h1, h2⟩ := gathK_ok (P := fun a => 0 ≤ a ∧ a ≤ 18446744073709551615) hx hs
        exact ⟨by omega, h1, ⟨h2⟩⟩
theorem gathR_ne {xs : EL} {e : Int} (h : gathR xs = .inl e) : ¬ e = 0 := by
  unfold gathR at h
  split at h
  · cases h; decide
  · split at h
    · cases h; decide
    · split at h
      · cases h; decide
      · cases h
theorem dynS_ok {sg : List SG} (h : ∀ s ∈ sg, SGok s) {s : SG} (hs : dynS sg = some s) : SGok s := h s (List.mem_of_find?_eq_some hs)
/-- The boxes of a head and the result. -/
structure BH (w : World) (hv : List Value) (W : World) : Prop where
  ra : Row W w.heap.size 27 hv
  rc : Row W (w.heap.size + 1) 60 ob0
  low : Below w.heap.size w W
theorem BH.below {w W W' : World} {hv : List Value} (h : BH w hv W) (hb : Below W.heap.size W W') : BH w hv W' := ⟨h.ra.below hb h.ra.lt, h.rc.below hb h.rc.lt, h.low.trans (hb.mono h.low.size)⟩
/-- All stands but the result's block. -/
structure SX (W : World) (rb : Nat) (ww : World) : Prop where
  x : X1 W ww rb
  res : ∃ u0 u1 u2 u3 u4 u5 u6, Row ww rb 60 [u0, u1, u2, u3, u4, u5, u6]
section
variable {W ww w' : World} {rb : Nat}
theorem SX.call (h : SX W rb ww) (hb : Below ww.heap.size ww w') : SX W rb w' := by
  obtain ⟨u0, u1, u2, u3, u4, u5, u6, hr⟩ := h.res
  exact ⟨h.x.trans (X1.of rb hb), u0, u1, u2, u3, u4, u5, u6, hr.below hb hr.lt⟩
theorem SX.drew (h : SX W rb ww) : SX W rb ww.drew := h.call ((Below.refl _ ww).drew)
theorem SX.set7 (h : SX W rb ww) (v0 v1 v2 v3 v4 v5 v6 : Value) : SX W rb (((((((ww.setCell ⟨rb, 0, none⟩ v0).setCell ⟨rb, 1, none⟩ v1).setCell ⟨rb, 2, none⟩ v2).setCell ⟨rb, 3, none⟩ v3).setCell ⟨rb, 4, none⟩ v4).setCell ⟨rb, 5, none⟩ v5).setCell ⟨rb, 6, none⟩ v6) := by
  obtain ⟨u0, u1, u2, u3, u4, u5, u6, hr⟩ := h.res
  exact ⟨((((((h.x.set 0 v0).set 1 v1).set 2 v2).set 3 v3).set 4 v4).set 5 v5).set 6 v6, v0, v1, v2, v3, v4, v5, v6, ((((((hr.set 0 v0).set 1 v1).set 2 v2).set 3 v3).set 4 v4).set 5 v5).set 6 v6⟩
theorem SX.c (h : SX W rb ww) : ww.cell? ⟨rb, 0, none⟩ = some (c0V rb 0 ww) ∧ ww.cell? ⟨rb, 1, none⟩ = some (c0V rb 1 ww) ∧ ww.cell? ⟨rb, 2, none⟩ = some (c0V rb 2 ww) ∧ ww.cell? ⟨rb, 3, none⟩ = some (c0V rb 3 ww) ∧ ww.cell? ⟨rb, 4, none⟩ = some (c0V rb 4 ww) ∧ ww.cell? ⟨rb, 5, none⟩ = some (c0V rb 5 ww) ∧ ww.cell? ⟨rb, 6, none⟩ = some (c0V rb 6 ww) := by
  obtain ⟨u0, u1, u2, u3, u4, u5, u6, hr⟩ := h.res
  obtain ⟨h0, h1, h2, h3, h4, h5, h6⟩ := hr.seven
  unfold c0V
  rw [h0, h1, h2, h3, h4, h5, h6]
  exact ⟨rfl, rfl, rfl, rfl, rfl, rfl, rfl⟩
theorem SX.fz (h : SX W rb ww) (i : Nat) : ww.frozen? ⟨rb, i, none⟩ = false := by
  obtain ⟨u0, u1, u2, u3, u4, u5, u6, hr⟩ := h.res
  exact hr.frozen i
theorem SX.lt (h : SX W rb ww) : rb < ww.heap.size := by
  obtain ⟨u0, u1, u2, u3, u4, u5, u6, hr⟩ := h.res
  exact hr.lt
end
/-- The seven cells of an object. -/
structure Z7 where
  b0 : Option Addr
  n0 : Nat
  k0 : Nat
  s1 : ByteArray
  s2 : ByteArray
  b3 : Option Addr
  n3 : Nat
  k3 : Nat
  b4 : Option Addr
  n4 : Nat
  k4 : Nat
  b5 : Option Addr
  n5 : Nat
  k5 : Nat
  b6 : Option Addr
  n6 : Nat
  k6 : Nat
def z70 : Z7 := ⟨none, 0, 0, ⟨#[]⟩, ⟨#[]⟩, none, 0, 0, none, 0, 0, none, 0, 0, none, 0, 0⟩
def Fin7 (R : Int ⊕ OBJ) (w w' : World) (z : Z7) (er : Int) : Prop :=
  (R = .inl er ∧ ¬ er = 0 ∧ z = z70) ∨ (∃ o, R = .inr o ∧ er = 0 ∧ z.s1 = ba o.sn ∧ z.s2 = ba o.rn ∧ OwnS w' w.heap.size (.slice z.b0 z.n0 z.k0) o.nd ∧ OwnD w' w.heap.size (.slice z.b3 z.n3 z.k3) o.sy ∧ OwnL w' w.heap.size (.slice z.b4 z.n4 z.k4) o.rl ∧ OwnU w' w.heap.size (.slice z.b5 z.n5 z.k5) o.bs ∧ OwnU w' w.heap.size (.slice z.b6 z.n6 z.k6) o.cs)
theorem readP_flat {R : Int ⊕ OBJ} {w w' : World} {e : Ending} (h : ReadP R w e w') : ∃ z er, e = .returned (.tuple #[.agg #[.slice z.b0 z.n0 z.k0, .string z.s1, .string z.s2, .slice z.b3 z.n3 z.k3, .slice z.b4 z.n4 z.k4, .slice z.b5 z.n5 z.k5, .slice z.b6 z.n6 z.k6], .int .i64 er]) ∧ Fin7 R w w' z er ∧ Below w.heap.size w w' := by
  rcases h.ex with ⟨er, h1, h2, rfl⟩ | ⟨o, nv, yv, rv, bv, cv, h1, rfl, k0, k3, k4, k5, k6⟩
  · exact ⟨z70, er, rfl, .inl ⟨h1, h2, rfl⟩, h.low⟩
  · obtain ⟨a0, c0, rfl⟩ := own_hd2 k0
    obtain ⟨a3, c3, rfl⟩ := own_hd2 k3
    obtain ⟨a4, c4, rfl⟩ := own_hd2 k4
    obtain ⟨a5, c5, rfl⟩ := own_hd2 k5
    obtain ⟨a6, c6, rfl⟩ := own_hd2 k6
    exact ⟨⟨a0, _, c0, ba o.sn, ba o.rn, a3, _, c3, a4, _, c4, a5, _, c5, a6, _, c6⟩, 0, rfl, .inr ⟨o, h1, rfl, rfl, rfl, k0, k3, k4, k5, k6⟩, h.low⟩
theorem read_flat (ab : Option Addr) (cap : Nat) (l : BL) (la : Option Addr) (lc : Nat) (L : List SG) (na : Option Addr) (nc : Nat) (nd : List Int) (mv : Nat) (vals : EL) (w : World) (h : RS w ab cap l la lc L (.slice na nd.length nc) mv vals)
    (hN : Nums w .u64 na nd.length nd) (hnl : nd.length ≤ 8) (hnu : ∀ x ∈ nd, 0 ≤ x ∧ x ≤ 18446744073709551615) :
    Calls Tryd.prog 35 #[.agg #[.slice ab l.length cap, .slice la L.length lc], .agg #[.slice na nd.length nc, .map (some mv)]] w (fun e w' => ∃ z er, e = .returned (.tuple #[.agg #[.slice z.b0 z.n0 z.k0, .string z.s1, .string z.s2, .slice z.b3 z.n3 z.k3, .slice z.b4 z.n4 z.k4, .slice z.b5 z.n5 z.k5, .slice z.b6 z.n6 z.k6], .int .i64 er]) ∧ Fin7 (readO l L nd vals) w w' z er ∧ Below w.heap.size w w') :=
  (read_any ab cap l la lc L na nc nd mv vals w h hN hnl hnu).mono fun e w' h => readP_flat h
set_option maxRecDepth 100000 in
set_option maxHeartbeats 16000000 in
theorem parse_any (ab : Option Addr) (cap : Nat) (l : BL) (typ entry phoff : Int) (a : Option Addr) (c : Nat) (sg : List SG) (w : World) (hs : Sizes w) (hB : Byt w ab l.length l) (hlc : l.length ≤ cap) (hl : l.length ≤ 1000000000) (hS : Sgs w a sg.length sg) (hn : sg.length ≤ 1000000000) (hok : ∀ s ∈ sg, SGok s) :
    Calls Tryd.prog 21 #[.slice ab l.length cap, .agg #[.int .u16 typ, .int .u64 entry, .int .u64 phoff, .slice a sg.length c]] w (ReadP (parseO l sg) w) := by
  obtain ⟨W, hW⟩ : ∃ W, W = (w.alloc (.cells #[.int .u16 typ, .int .u64 entry, .int .u64 phoff, .slice a sg.length c] 27)).alloc (.cells #[.slice none 0 0, .string ⟨#[]⟩, .string ⟨#[]⟩, .slice none 0 0, .slice none 0 0, .slice none 0 0, .slice none 0 0] 60) := ⟨_, rfl⟩
  have HW := hid hW
  have HLOW := hid (show Below w.heap.size w W by rw [hW]; exact (bal _).alloc (bal (w := w) _).size _)
  have HBH := hid (show BH w [.int .u16 typ, .int .u64 entry, .int .u64 phoff, .slice a sg.length c] W from by
    refine ⟨?_, ?_, HLOW.out⟩
    · rw [hW]; exact (Row.new _ _ _).alloc _
    · rw [hW]
      have := Row.new (w.alloc (.cells #[.int .u16 typ, .int .u64 entry, .int .u64 phoff, .slice a sg.length c] 27)) 60 ob0
      rw [World.size_alloc] at this
      exact this)
  have HWZ := hid (show W.heap.size = w.heap.size + 2 by rw [hW, World.size_alloc, World.size_alloc])
  have HSZ := hid (fun W (hb : Below w.heap.size w W) => hs.below hb)
  have HBY := hid (fun W (hb : Below w.heap.size w W) => hB.below' hb)
  have HSG := hid (fun W (hb : Below w.heap.size w W) => hS.below' hb)
  have HL := hid hl
  have HLC := hid hlc
  have HN := hid hn
  have HOK := hid hok
  obtain ⟨R, hR⟩ : ∃ R, R = parseO l sg := ⟨_, rfl⟩
  rw [← hR]
  have HR := hid hR
  have HDS := hid (dynamicSeg_any typ entry phoff a c sg W (HSG.out W HLOW.out) hn)
  obtain ⟨x0, x1, x2, x3⟩ := HBH.out.ra.four
  clear hW hs hB hS hl hlc hn hok hR
  go_enter Tryd.func21, Tryd.ntmps21
  go_wp2_with fail
  rw [← HW.out]
  go_wp2_with fail
  refine HDS.out.mono ?_
  rintro e' w1 ⟨rfl, hb1⟩
  have HBH1 := hid (HBH.out.below hb1)
  clear hb1 x0 x1 x2 x3
  cases hd : dynS sg
  · have HF := hid (show R = .inr obZ by rw [HR.out]; unfold parseO; rw [hd])
    clear hd
    unfold sgV zSG
    simp only [Option.getD_none, Option.isSome_none]
    obtain ⟨q0, q1, q2, q3, q4, q5, q6⟩ := HBH1.out.rc.seven
    obtain ⟨j0, j1, j2, j3, j4, j5, j6⟩ := HBH1.out.rc.sevenF
    have hql := HBH1.out.rc.lt
    go_wp2_with fail
    refine bodyPost_ret (v := .tuple #[.agg ob0.toArray, .int .i64 0]) (by simp [results, Tryd.results21, Tryd.f21, go_sem, ob0, q0, q1, q2, q3, q4, q5, q6, hql]) rfl ⟨.inr ⟨obZ, .slice none 0 0, .slice none 0 0, .slice none 0 0, .slice none 0 0, .slice none 0 0, HF.out, rfl, ⟨rfl, .inl ⟨rfl, rfl⟩⟩, ⟨rfl, .inl ⟨rfl, rfl⟩⟩, ⟨rfl, .inl ⟨rfl, rfl⟩⟩, ⟨rfl, .inl ⟨rfl, rfl⟩⟩, ⟨rfl, .inl ⟨rfl, rfl⟩⟩⟩, ?_⟩
    have hlow7 := fun u0 u1 u2 u3 u4 u5 u6 => bset7 HBH1.out.low (show w.heap.size ≤ w.heap.size + 1 by omega) u0 u1 u2 u3 u4 u5 u6
    exact (hlow7 _ _ _ _ _ _ _).alloc (hlow7 _ _ _ _ _ _ _).size _
  rename_i s
  have HSO := hid (dynS_ok HOK.out hd)
  have HR1 := hid (show R = (match entsL l s with | none => .inl 25 | some xs => parseG l sg xs) by rw [HR.out]; unfold parseO; rw [hd])
  clear hd
  unfold sgV
  simp only [Option.getD_some, Option.isSome_some]
  have HBHA := hid (fun o => HBH1.out.below (bal (w := w1) o))
  have HEN := hid (fun o => entries_any ab l.length cap l s (w1.alloc o) (HSZ.out _ (HBHA.out o).low) HL.out (HBY.out _ (HBHA.out o).low) HSO.out)
  unfold sgV at HEN
  go_wp2_with fail
  refine (HEN.out _).mono ?_
  intro e3 w3 h3
  obtain ⟨hex3, hb3⟩ := (show EntP _ _ _ _ from h3)
  have HBH3 := hid ((HBHA.out _).below hb3)
  clear h3 hb3
  rcases hex3 with ⟨xs, a3, c3, hx, rfl, hk3⟩ | ⟨hx, rfl⟩
  rotate_left
  · have HF := hid (show R = .inl 25 by rw [HR1.out, hx])
    have HER := hid (show ¬ (25 : Int) = 0 by decide)
    clear hx
    obtain ⟨q0, q1, q2, q3, q4, q5, q6⟩ := HBH3.out.rc.seven
    obtain ⟨j0, j1, j2, j3, j4, j5, j6⟩ := HBH3.out.rc.sevenF
    have hql := HBH3.out.rc.lt
    go_wp2_with fail
    refine bodyPost_ret (v := .tuple #[.agg ob0.toArray, .int .i64 25]) (by simp [results, Tryd.results21, Tryd.f21, go_sem, ob0, q0, q1, q2, q3, q4, q5, q6, hql]) rfl ⟨.inl ⟨25, HF.out, HER.out, rfl⟩, ?_⟩
    exact bset7 HBH3.out.low (by omega) _ _ _ _ _ _ _
  have HR2 := hid (show R = parseG l sg xs by rw [HR1.out, hx])
  have HXO := hid (entsL_ok HL.out HSO.out hx)
  have HGA := hid (gather_any a3 c3 xs w3 hk3 HXO.out.1 HXO.out.2)
  clear hx hk3
  go_wp2_with fail
  refine HGA.out.mono ?_
  intro e4 w4 h4
  obtain ⟨hex4, hb4⟩ := (show GatP _ _ _ _ from h4)
  have HBH4 := hid (HBH3.out.below hb4)
  have HB34 := hid (HBH3.out.low.size)
  clear h4 hb4
  rcases hex4 with ⟨er, hg, rfl⟩ | ⟨g, v4, mv, hg, rfl, ho4, hm4⟩
  · have HF := hid (show R = .inl er by rw [HR2.out]; unfold parseG; rw [hg])
    have HER := hid (gathR_ne hg)
    have e5 : (er != 0) = true := by simpa using HER.out
    clear hg
    obtain ⟨q0, q1, q2, q3, q4, q5, q6⟩ := HBH4.out.rc.seven
    obtain ⟨j0, j1, j2, j3, j4, j5, j6⟩ := HBH4.out.rc.sevenF
    have hql := HBH4.out.rc.lt
    go_wp2_with fail
    refine bodyPost_ret (v := .tuple #[.agg ob0.toArray, .int .i64 er]) (by simp [results, Tryd.results21, Tryd.f21, go_sem, ob0, q0, q1, q2, q3, q4, q5, q6, hql]) rfl ⟨.inl ⟨er, HF.out, HER.out, rfl⟩, ?_⟩
    have hlow7 := fun u0 u1 u2 u3 u4 u5 u6 => bset7 HBH4.out.low (show w.heap.size ≤ w.heap.size + 1 by omega) u0 u1 u2 u3 u4 u5 u6
    exact (hlow7 _ _ _ _ _ _ _).alloc (hlow7 _ _ _ _ _ _ _).size _
  have HR3 := hid (show R = readO l (lds sg) g.1 g.2 by rw [HR2.out]; unfold parseG; rw [hg])
  have HGO := hid (gathR_ok (fun x hx => (HXO.out.2 x hx).2.2) hg)
  obtain ⟨a4, c4, rfl, hnums⟩ := own_nums ho4
  obtain ⟨W7, hW7⟩ : ∃ W7, W7 = w4.alloc (.cells #[.slice a4 g.1.length c4, .map (some mv)] 85) := ⟨_, rfl⟩
  have HW7 := hid hW7
  have HL7 := hid (show Below w4.heap.size w4 W7 by rw [hW7]; exact bal _)
  have HBH7 := hid (HBH4.out.below HL7.out)
  have HRS7 := hid (show Row W7 w4.heap.size 85 [.slice a4 g.1.length c4, .map (some mv)] by rw [hW7]; exact Row.new _ _ _)
  have HOW7 := hid (own_from (own_below ho4 HL7.out) (base' := w.heap.size) HB34.out)
  have HMM7 := hid (hm4.below HL7.out)
  clear hg ho4 hm4 hnums hW7
  go_wp2_with fail
  rw [← HW7.out]
  have HNE := hid (show w4.heap.size ≠ w.heap.size + 1 by have := HBH4.out.rc.lt; omega)
  have HLW := hid (fun ww (hs : SX W7 (w.heap.size + 1) ww) => show Below w.heap.size w ww from HBH7.out.low.trans (hs.x.below (by omega) HBH7.out.low.size))
  have HLD := hid (fun ww (hs : SX W7 (w.heap.size + 1) ww) => loads12_any typ entry phoff a c sg ww (HSG.out ww (HLW.out ww hs)) HN.out)
  have HREAD := hid (fun ww (a1 : Option Addr) (c1 : Nat) (hs : SX W7 (w.heap.size + 1) ww) (h1 : Sgs ww a1 (lds sg).length (lds sg)) => read_flat ab cap l a1 c1 (lds sg) a4 c4 g.1 mv g.2 ww
    ⟨HSZ.out ww (HLW.out ww hs), HBY.out ww (HLW.out ww hs), HLC.out, HL.out, h1, Nat.le_trans (lds_len sg) HN.out, lds_ok HOK.out, ⟨_, _, _, rfl⟩, HMM7.out.same (hs.x.block mv HMM7.out.lt (fun e => row_mm HBH7.out.rc HMM7.out e.symm)), HGO.out.2.2⟩
    (by
      obtain ⟨a9, c9, h9, hn9⟩ := own_nums (hs.x.own HOW7.out (own_ne_row HOW7.out HBH7.out.rc (by decide)))
      cases h9
      exact hn9) HGO.out.1 HGO.out.2.1)
  have HSX := hid (show SX W7 (w.heap.size + 1) W7 from ⟨X1.refl _ _, _, _, _, _, _, _, _, HBH7.out.rc⟩)
  have HOG := hid (fun W base v (h : OwnG W base v (lds sg)) => show ∃ a c, v = .slice a (lds sg).length c ∧ Sgs W a (lds sg).length (lds sg) from by
    obtain ⟨a1, c1, h1, h2, _⟩ := ownG_open h
    exact ⟨a1, c1, h1, h2⟩)
  have e0 : ∀ ww, SX W7 (w.heap.size + 1) ww → ww.cell? ⟨w.heap.size, 0, none⟩ = some (.int .u16 typ) := fun ww h => (h.x.row HBH7.out.ra (by omega)).four.1
  have e1 : ∀ ww, SX W7 (w.heap.size + 1) ww → ww.cell? ⟨w.heap.size, 1, none⟩ = some (.int .u64 entry) := fun ww h => (h.x.row HBH7.out.ra (by omega)).four.2.1
  have e2 : ∀ ww, SX W7 (w.heap.size + 1) ww → ww.cell? ⟨w.heap.size, 2, none⟩ = some (.int .u64 phoff) := fun ww h => (h.x.row HBH7.out.ra (by omega)).four.2.2.1
  have e3 : ∀ ww, SX W7 (w.heap.size + 1) ww → ww.cell? ⟨w.heap.size, 3, none⟩ = some (.slice a sg.length c) := fun ww h => (h.x.row HBH7.out.ra (by omega)).four.2.2.2
  have s0 : ∀ ww, SX W7 (w.heap.size + 1) ww → ww.cell? ⟨w4.heap.size, 0, none⟩ = some (.slice a4 g.1.length c4) := fun ww h => (h.x.row HRS7.out HNE.out).two.1
  have s1 : ∀ ww, SX W7 (w.heap.size + 1) ww → ww.cell? ⟨w4.heap.size, 1, none⟩ = some (.map (some mv)) := fun ww h => (h.x.row HRS7.out HNE.out).two.2
  have c0 : ∀ ww, SX W7 (w.heap.size + 1) ww → ww.cell? ⟨w.heap.size + 1, 0, none⟩ = some (c0V (w.heap.size + 1) 0 ww) := fun ww h => h.c.1
  have c1 : ∀ ww, SX W7 (w.heap.size + 1) ww → ww.cell? ⟨w.heap.size + 1, 1, none⟩ = some (c0V (w.heap.size + 1) 1 ww) := fun ww h => h.c.2.1
  have c2 : ∀ ww, SX W7 (w.heap.size + 1) ww → ww.cell? ⟨w.heap.size + 1, 2, none⟩ = some (c0V (w.heap.size + 1) 2 ww) := fun ww h => h.c.2.2.1
  have c3' : ∀ ww, SX W7 (w.heap.size + 1) ww → ww.cell? ⟨w.heap.size + 1, 3, none⟩ = some (c0V (w.heap.size + 1) 3 ww) := fun ww h => h.c.2.2.2.1
  have c4' : ∀ ww, SX W7 (w.heap.size + 1) ww → ww.cell? ⟨w.heap.size + 1, 4, none⟩ = some (c0V (w.heap.size + 1) 4 ww) := fun ww h => h.c.2.2.2.2.1
  have c5 : ∀ ww, SX W7 (w.heap.size + 1) ww → ww.cell? ⟨w.heap.size + 1, 5, none⟩ = some (c0V (w.heap.size + 1) 5 ww) := fun ww h => h.c.2.2.2.2.2.1
  have c6 : ∀ ww, SX W7 (w.heap.size + 1) ww → ww.cell? ⟨w.heap.size + 1, 6, none⟩ = some (c0V (w.heap.size + 1) 6 ww) := fun ww h => h.c.2.2.2.2.2.2
  have j0 : ∀ ww, SX W7 (w.heap.size + 1) ww → ww.frozen? ⟨w.heap.size + 1, 0, none⟩ = false := fun ww h => h.fz 0
  have j1 : ∀ ww, SX W7 (w.heap.size + 1) ww → ww.frozen? ⟨w.heap.size + 1, 1, none⟩ = false := fun ww h => h.fz 1
  have j2 : ∀ ww, SX W7 (w.heap.size + 1) ww → ww.frozen? ⟨w.heap.size + 1, 2, none⟩ = false := fun ww h => h.fz 2
  have j3 : ∀ ww, SX W7 (w.heap.size + 1) ww → ww.frozen? ⟨w.heap.size + 1, 3, none⟩ = false := fun ww h => h.fz 3
  have j4 : ∀ ww, SX W7 (w.heap.size + 1) ww → ww.frozen? ⟨w.heap.size + 1, 4, none⟩ = false := fun ww h => h.fz 4
  have j5 : ∀ ww, SX W7 (w.heap.size + 1) ww → ww.frozen? ⟨w.heap.size + 1, 5, none⟩ = false := fun ww h => h.fz 5
  have j6 : ∀ ww, SX W7 (w.heap.size + 1) ww → ww.frozen? ⟨w.heap.size + 1, 6, none⟩ = false := fun ww h => h.fz 6
  go_region_held3 (SX W7 (w.heap.size + 1)) (first | with_reducible exact SX.set7 HS2.out _ _ _ _ _ _ _ | with_reducible exact HS2.out | with_reducible exact HS1.out | exact HSX.out.drew | assumption) (first | (go_at_call 34; with_reducible refine ((HLD.out _ (by assumption)).mono ?_); rintro e' wx1 ⟨v1, rfl, ho1, hb1⟩; obtain ⟨a1, k1, rfl, hs1⟩ := HOG.out _ _ _ ho1; have HS1 : Hid (SX W7 (w.heap.size + 1) wx1) := hid (SX.call (by assumption) hb1); have HRD := hid (HREAD.out wx1 a1 k1 HS1.out hs1); clear ho1 hs1) | (go_at_call 35; with_reducible refine (HRD.out.mono ?_); rintro e' wx2 ⟨z, er, rfl, hfin, hb2⟩; have HFIN := hid hfin; have HS2 : Hid (SX W7 (w.heap.size + 1) wx2) := hid (SX.call HS1.out hb2); clear hfin))
  clear e0 e1 e2 e3 s0 s1 c0 c1 c2 c3' c4' c5 c6 j0 j1 j2 j3 j4 j5 j6
  obtain ⟨z0, z1, z2, z3, z4, z5, z6⟩ := HS2.out.c
  have hzl := HS2.out.lt
  have HLWx := hid (HLW.out _ HS2.out)
  have HSZ1 := hid (show w.heap.size ≤ wx1.heap.size from (HLW.out _ HS1.out).size)
  obtain ⟨r0, r1, r2, r3, r4, r5, r6, hrow⟩ := HS2.out.res
  have HROW := hid hrow
  clear hb1 hb2 hrow
  go_wp2_with fail
  refine bodyPost_ret (v := .tuple #[.agg #[.slice z.b0 z.n0 z.k0, .string z.s1, .string z.s2, .slice z.b3 z.n3 z.k3, .slice z.b4 z.n4 z.k4, .slice z.b5 z.n5 z.k5, .slice z.b6 z.n6 z.k6], .int .i64 er]) (by simp [results, Tryd.results21, Tryd.f21, go_sem, z0, z1, z2, z3, z4, z5, z6, hzl]) rfl ⟨?_, ?_⟩
  · rw [HR3.out]
    rcases HFIN.out with ⟨h1, h2, h3⟩ | ⟨o, h1, h2, h3, h4, k0, k3, k4, k5, k6⟩
    · refine .inl ⟨er, h1, h2, ?_⟩
      rw [h3]
      rfl
    · refine .inr ⟨o, .slice z.b0 z.n0 z.k0, .slice z.b3 z.n3 z.k3, .slice z.b4 z.n4 z.k4, .slice z.b5 z.n5 z.k5, .slice z.b6 z.n6 z.k6, h1, by rw [h2, h3, h4], ?_, ?_, ?_, ?_, ?_⟩
      · have k := own_from k0 (base' := w.heap.size) HSZ1.out
        exact own_set7 k (own_ne_row k HROW.out (by decide)) _ _ _ _ _ _ _
      · have k := own_from k3 (base' := w.heap.size) HSZ1.out
        exact own_set7 k (own_ne_row k HROW.out (by decide)) _ _ _ _ _ _ _
      · have k := own_from k4 (base' := w.heap.size) HSZ1.out
        exact own_set7 k (own_ne_row k HROW.out (by decide)) _ _ _ _ _ _ _
      · have k := own_from k5 (base' := w.heap.size) HSZ1.out
        exact own_set7 k (own_ne_row k HROW.out (by decide)) _ _ _ _ _ _ _
      · have k := own_from k6 (base' := w.heap.size) HSZ1.out
        exact own_set7 k (own_ne_row k HROW.out (by decide)) _ _ _ _ _ _ _
  · exact bset7 HLWx.out (by omega) _ _ _ _ _ _ _
end Go.Proofs.YtkkadknijjninaaDoor
