
/- dynamic.read. -/
import Derived.Test.YtkkadknijjninaaDoorQb2
namespace Go.Proofs.YtkkadknijjninaaDoor
open Go.RowKit Go.Sort Go.Shelf Go.WideMaps Go.Maps
attribute [local go_sem] Oper.semAt_some

structure OBJ where
  nd : List BL
  sn : BL
  rn : BL
  sy : List SY
  rl : List RLA
  bs : List Int
  cs : List Int
def overB (n : Nat) (r : RLA) : Bool := decide ((n : Int) < r.sym)
def readE (n : List BL × BL × BL) (s : SYM) (rl : List RLA) (sy : List SY) : Int ⊕ OBJ := if rl.any (overB sy.length) = true then .inl 25 else .inr ⟨n.1, n.2.1, n.2.2, sy, rl, s.bs, s.cs⟩
def readD (t : BL) (nd : List Int) (vals : EL) (s : SYM) (rl : List RLA) : Int ⊕ OBJ := match namO t nd vals with
  | none => .inl 25
  | some n => match symS t (s.ss.drop 1) with
    | none => .inl 25
    | some sy => readE n s rl sy
def readC (l : BL) (L : List SG) (nd : List Int) (vals : EL) (t : BL) (s : SYM) : Int ⊕ OBJ := match relO l L vals with
  | .inl e => .inl e
  | .inr rl => readD t nd vals s rl
def readB (l : BL) (L : List SG) (nd : List Int) (vals : EL) (t : BL) : Int ⊕ OBJ := match symO l L vals with
  | .inl e => .inl e
  | .inr s => readC l L nd vals t s
/-- What read answers. -/
def readO (l : BL) (L : List SG) (nd : List Int) (vals : EL) : Int ⊕ OBJ := match tabO l L vals with
  | none => .inl 25
  | some t => readB l L nd vals t
def ob0 : List Value := [.slice none 0 0, .string ⟨#[]⟩, .string ⟨#[]⟩, .slice none 0 0, .slice none 0 0, .slice none 0 0, .slice none 0 0]
structure ReadP (R : Int ⊕ OBJ) (w : World) (e : Ending) (w' : World) : Prop where
  ex : (∃ er, R = .inl er ∧ ¬ er = 0 ∧ e = .returned (.tuple #[.agg ob0.toArray, .int .i64 er])) ∨ (∃ o nv yv rv bv cv, R = .inr o ∧ e = .returned (.tuple #[.agg #[nv, .string (ba o.sn), .string (ba o.rn), yv, rv, bv, cv], .int .i64 0]) ∧ OwnS w' w.heap.size nv o.nd ∧ OwnD w' w.heap.size yv o.sy ∧ OwnL w' w.heap.size rv o.rl ∧ OwnU w' w.heap.size bv o.bs ∧ OwnU w' w.heap.size cv o.cs)
  low : Below w.heap.size w w'
theorem bset7 {B : Nat} {w w' : World} (h : Below B w w') {b : Nat} (hb : B ≤ b) (u0 u1 u2 u3 u4 u5 u6 : Value) : Below B w (((((((w'.setCell ⟨b, 0, none⟩ u0).setCell ⟨b, 1, none⟩ u1).setCell ⟨b, 2, none⟩ u2).setCell ⟨b, 3, none⟩ u3).setCell ⟨b, 4, none⟩ u4).setCell ⟨b, 5, none⟩ u5).setCell ⟨b, 6, none⟩ u6) :=
  bset (bset (bset (bset (bset (bset (bset h hb _) hb _) hb _) hb _) hb _) hb _) hb _
theorem own_set7 {w : World} {base e size n : Nat} {v : Value} {xs : List Value} (h : w.ownsRow base e size v n xs) {b : Nat} (hne : some b ≠ v.ownBlock) (u0 u1 u2 u3 u4 u5 u6 : Value) : (((((((w.setCell ⟨b, 0, none⟩ u0).setCell ⟨b, 1, none⟩ u1).setCell ⟨b, 2, none⟩ u2).setCell ⟨b, 3, none⟩ u3).setCell ⟨b, 4, none⟩ u4).setCell ⟨b, 5, none⟩ u5).setCell ⟨b, 6, none⟩ u6).ownsRow base e size v n xs :=
  own_setOther (own_setOther (own_setOther (own_setOther (own_setOther (own_setOther (own_setOther h hne _) hne _) hne _) hne _) hne _) hne _) hne _
theorem own_x1 {w w' : World} {base e size n ob T : Nat} {v : Value} {xs cs : List Value} (h : w.ownsRow base e size v n xs) (hr : Row w ob T cs) (hT : T ≠ e) (hx : X1 w w' ob) : w'.ownsRow base e size v n xs := hx.own h (own_ne_row h hr hT)
theorem Row.seven {w : World} {g : Nat} {E : TypeId} {a b c d e f i : Value} (h : Row w g E [a, b, c, d, e, f, i]) : w.cell? ⟨g, 0, none⟩ = some a ∧ w.cell? ⟨g, 1, none⟩ = some b ∧ w.cell? ⟨g, 2, none⟩ = some c ∧ w.cell? ⟨g, 3, none⟩ = some d ∧ w.cell? ⟨g, 4, none⟩ = some e ∧ w.cell? ⟨g, 5, none⟩ = some f ∧ w.cell? ⟨g, 6, none⟩ = some i :=
  ⟨h.cell 0 (by simp), h.cell 1 (by simp), h.cell 2 (by simp), h.cell 3 (by simp), h.cell 4 (by simp), h.cell 5 (by simp), h.cell 6 (by simp)⟩
theorem Row.sevenF {w : World} {g : Nat} {E : TypeId} {cs : List Value} (h : Row w g E cs) : w.frozen? ⟨g, 0, none⟩ = false ∧ w.frozen? ⟨g, 1, none⟩ = false ∧ w.frozen? ⟨g, 2, none⟩ = false ∧ w.frozen? ⟨g, 3, none⟩ = false ∧ w.frozen? ⟨g, 4, none⟩ = false ∧ w.frozen? ⟨g, 5, none⟩ = false ∧ w.frozen? ⟨g, 6, none⟩ = false :=
  ⟨h.frozen 0, h.frozen 1, h.frozen 2, h.frozen 3, h.frozen 4, h.frozen 5, h.frozen 6⟩
theorem symO_ok {l : BL} {L : List SG} {vals : EL} {s : SYM} (h : symO l L vals = .inr s) : s.ss.length ≤ 1000 ∧ ∀ x ∈ s.ss, 0 ≤ x.name ∧ x.name ≤ 18446744073709551615 := by
  unfold symO at h
  split at h
  · split at h
    · cases h
    · unfold symF at h
      split at h
      · cases h
      · rename_i hb
        split at h
        · cases h
          refine ⟨by simp only [symT, rowsL_len]; omega, fun x hx => ?_⟩
          simp only [symT, rowsL] at hx
          obtain ⟨i, _, rfl⟩ := List.mem_map.1 hx
          exact ⟨wget_u, Int.le_trans wg4 (by decide)⟩
        · cases h
  · cases h
    exact ⟨Nat.zero_le _, fun x hx => by cases hx⟩
theorem own_rk_cap {W : World} {base : Nat} {v : Value} {xs : List RLA} (h : OwnL W base v xs) : xs.length ≤ maxLen := by
  rcases h.2 with ⟨_, h0⟩ | ⟨g, cap, cur, _, _, _, hn, hm, _⟩
  · rw [List.length_map] at h0; rw [h0]; exact Nat.zero_le _
  · rw [List.length_map] at hn; exact Nat.le_trans hn hm
theorem relO_len {l : BL} {L : List SG} {vals : EL} {rl : List RLA} (hv : ValOk vals) (h : relO l L vals = .inr rl) : rl.length ≤ 1000000000 := by
  unfold relO at h
  split at h
  · split at h
    · cases h
    · rename_i hb
      unfold relF at h
      split at h
      · cases h
      · rename_i x hx
        split at h
        · cases h
        · rename_i y hy
          cases h
          have v8 := hv.v 8
          have v2 := hv.v 2
          have h1 := relT_len hx
          have h2 := relT_len hy
          rw [List.length_append]
          omega
  · cases h
/-- The boxes of a reader, a section and the result. -/
structure BX (w : World) (rv sv : List Value) (W : World) : Prop where
  ra : Row W w.heap.size 90 rv
  rb : Row W (w.heap.size + 1) 85 sv
  rc : Row W (w.heap.size + 1 + 1) 60 ob0
  low : Below w.heap.size w W
theorem BX.below {w W W' : World} {rv sv : List Value} (h : BX w rv sv W) (hb : Below W.heap.size W W') : BX w rv sv W' := ⟨h.ra.below hb h.ra.lt, h.rb.below hb h.rb.lt, h.rc.below hb h.rc.lt, h.low.trans (hb.mono h.low.size)⟩
theorem BX.x1 {w W W' : World} {rv sv : List Value} {ob : Nat} (h : BX w rv sv W) (hx : X1 W W' ob) (ho : w.heap.size + 3 ≤ ob) : BX w rv sv W' :=
  ⟨hx.row h.ra (by omega), hx.row h.rb (by omega), hx.row h.rc (by omega), h.low.trans (hx.below (by omega) h.low.size)⟩
set_option maxRecDepth 100000 in
set_option maxHeartbeats 16000000 in
theorem read_any (ab : Option Addr) (cap : Nat) (l : BL) (la : Option Addr) (lc : Nat) (L : List SG) (na : Option Addr) (nc : Nat) (nd : List Int) (mv : Nat) (vals : EL) (w : World) (h : RS w ab cap l la lc L (.slice na nd.length nc) mv vals)
    (hN : Nums w .u64 na nd.length nd) (hnl : nd.length ≤ 8) (hnu : ∀ x ∈ nd, 0 ≤ x ∧ x ≤ 18446744073709551615) :
    Calls Tryd.prog 35 #[.agg #[.slice ab l.length cap, .slice la L.length lc], .agg #[.slice na nd.length nc, .map (some mv)]] w (ReadP (readO l L nd vals) w) := by
  obtain ⟨W, hW⟩ : ∃ W, W = ((w.alloc (.cells #[.slice ab l.length cap, .slice la L.length lc] 90)).alloc (.cells #[.slice na nd.length nc, .map (some mv)] 85)).alloc (.cells #[.slice none 0 0, .string ⟨#[]⟩, .string ⟨#[]⟩, .slice none 0 0, .slice none 0 0, .slice none 0 0, .slice none 0 0] 60) := ⟨_, rfl⟩
  have HW := hid hW
  have HLOW := hid (show Below w.heap.size w W by rw [hW]; exact ((bal _).alloc (bal (w := w) _).size _).alloc ((bal _).alloc (bal (w := w) _).size _).size _)
  have HBX := hid (show BX w [.slice ab l.length cap, .slice la L.length lc] [.slice na nd.length nc, .map (some mv)] W from by
    refine ⟨?_, ?_, ?_, HLOW.out⟩
    · rw [hW]; exact ((Row.new _ _ _).alloc _).alloc _
    · rw [hW]
      have := Row.new (w.alloc (.cells #[.slice ab l.length cap, .slice la L.length lc] 90)) 85 [.slice na nd.length nc, .map (some mv)]
      rw [World.size_alloc] at this
      exact this.alloc _
    · rw [hW]
      have := Row.new ((w.alloc (.cells #[.slice ab l.length cap, .slice la L.length lc] 90)).alloc (.cells #[.slice na nd.length nc, .map (some mv)] 85)) 60 ob0
      rw [World.size_alloc, World.size_alloc] at this
      exact this)
  have HWZ := hid (show W.heap.size = w.heap.size + 3 by rw [hW, World.size_alloc, World.size_alloc, World.size_alloc])
  have HRS := hid (fun W (hb : Below w.heap.size w W) => h.below hb)
  have HNX := hid (fun W (hb : Below w.heap.size w W) => hN.below' hb)
  have HN0 := hid hN
  have HNL := hid hnl
  have HNU := hid hnu
  obtain ⟨R, hR⟩ : ∃ R, R = readO l L nd vals := ⟨_, rfl⟩
  rw [← hR]
  have HR := hid hR
  obtain ⟨x0, x1⟩ := HBX.out.ra.two
  obtain ⟨y0, y1⟩ := HBX.out.rb.two
  have HTX := hid (texts_any ab cap l la lc L (.slice na nd.length nc) mv vals W (HRS.out W HLOW.out))
  clear hW h hN hnl hnu hR
  go_enter Tryd.func35, Tryd.ntmps35
  go_wp2_with fail
  rw [← HW.out]
  go_wp2_with fail
  refine HTX.out.mono ?_
  intro e1 w1 h1
  obtain ⟨hex1, hb1⟩ := (show TabP _ _ _ _ _ from h1)
  have HBX1 := hid (HBX.out.below hb1)
  have HB1 := hid hb1
  clear h1 hb1 x0 x1 y0 y1
  rcases hex1 with ⟨ht, rfl⟩ | ⟨t, ta, tn, tc, ht, rfl, htl, htc, htb⟩
  · have HF := hid (show R = .inl 25 by rw [HR.out]; unfold readO; rw [ht])
    have HER := hid (show ¬ (25 : Int) = 0 by decide)
    clear ht
    obtain ⟨q0, q1, q2, q3, q4, q5, q6⟩ := HBX1.out.rc.seven
    obtain ⟨j0, j1, j2, j3, j4, j5, j6⟩ := HBX1.out.rc.sevenF
    have hql := HBX1.out.rc.lt
    go_wp2_with fail
    refine bodyPost_ret (v := .tuple #[.agg ob0.toArray, .int .i64 25]) (by simp [results, Tryd.results35, Tryd.f35, go_sem, ob0, q0, q1, q2, q3, q4, q5, q6, hql]) rfl ⟨.inl ⟨25, HF.out, HER.out, rfl⟩, ?_⟩
    exact bset7 HBX1.out.low (by omega) _ _ _ _ _ _ _
  have HF1 := hid (show R = readB l L nd vals t by rw [HR.out]; unfold readO; rw [ht])
  have HTB := hid (fun WX (hb : Below W.heap.size W WX) => htb WX hb)
  have HTL := hid (show tn ≤ 1000000000 by have := (HRS.out W HLOW.out).hl; omega)
  have HTC := hid htc
  clear ht htb htl htc
  obtain ⟨x0, x1⟩ := HBX1.out.ra.two
  obtain ⟨y0, y1⟩ := HBX1.out.rb.two
  have HSY := hid (symbols_any ab cap l la lc L (.slice na nd.length nc) mv vals w1 (HRS.out w1 HBX1.out.low))
  go_wp2_with fail
  refine HSY.out.mono ?_
  intro e2 w2 h2
  obtain ⟨hex2, hb2⟩ := (show SymP _ _ _ _ from h2)
  have HB2 := hid (HB1.out.trans (hb2.mono HB1.out.size))
  have HBX2 := hid (HBX1.out.below hb2)
  have HBXA := hid (fun o => HBX2.out.below (bal (w := w2) o))
  clear h2 hb2 x0 x1 y0 y1
  rcases hex2 with ⟨er, hs, hne, rfl⟩ | ⟨s, va, vb, vs, hs, rfl, hoa, hob, hos⟩
  · have HF := hid (show R = .inl er by rw [HF1.out]; unfold readB; rw [hs])
    have HER := hid hne
    have e5 : (er != 0) = true := by simpa using hne
    clear hs hne
    obtain ⟨q0, q1, q2, q3, q4, q5, q6⟩ := HBX2.out.rc.seven
    obtain ⟨j0, j1, j2, j3, j4, j5, j6⟩ := HBX2.out.rc.sevenF
    have hql := HBX2.out.rc.lt
    go_wp2_with fail
    refine bodyPost_ret (v := .tuple #[.agg ob0.toArray, .int .i64 er]) (by simp [results, Tryd.results35, Tryd.f35, go_sem, ob0, q0, q1, q2, q3, q4, q5, q6, hql]) rfl ⟨.inl ⟨er, HF.out, HER.out, rfl⟩, ?_⟩
    have hlow7 := fun u0 u1 u2 u3 u4 u5 u6 => bset7 HBX2.out.low (show w.heap.size ≤ w.heap.size + 1 + 1 by omega) u0 u1 u2 u3 u4 u5 u6
    exact (hlow7 _ _ _ _ _ _ _).alloc (hlow7 _ _ _ _ _ _ _).size _
  have HF2 := hid (show R = readC l L nd vals t s by rw [HF1.out]; unfold readB; rw [hs])
  have HOA := hid (own_from hoa (base' := w.heap.size) (HBX1.out.low.size))
  have HOB := hid (own_from hob (base' := w.heap.size) (HBX1.out.low.size))
  have HOS := hid (own_from hos (base' := w.heap.size) (HBX1.out.low.size))
  obtain ⟨aa, ca, rfl⟩ := ownU_open hoa
  obtain ⟨a5, c5, rfl⟩ := ownU_open hob
  obtain ⟨as', cs', rfl⟩ := ownY_open hos
  obtain ⟨W3, hW3⟩ : ∃ W3, W3 = (w2.alloc (.cells #[.slice aa s.bs.length ca, .slice a5 s.cs.length c5] 58)).alloc (.cells #[.slice none 0 0, .string ⟨#[]⟩, .string ⟨#[]⟩, .slice none 0 0, .slice none 0 0, .slice aa s.bs.length ca, .slice a5 s.cs.length c5] 60) := ⟨_, rfl⟩
  have HW3 := hid hW3
  have HL3 := hid (show Below w2.heap.size w2 W3 by rw [hW3]; exact (bal _).alloc (bal (w := w2) _).size _)
  have HBX3 := hid (HBX2.out.below HL3.out)
  have HB3 := hid (HB2.out.trans (HL3.out.mono HB2.out.size))
  have HOR0 := hid (show Row W3 (w2.heap.size + 1) 60 [.slice none 0 0, .string ⟨#[]⟩, .string ⟨#[]⟩, .slice none 0 0, .slice none 0 0, .slice aa s.bs.length ca, .slice a5 s.cs.length c5] by
    rw [hW3]
    have := Row.new (w2.alloc (.cells #[.slice aa s.bs.length ca, .slice a5 s.cs.length c5] 58)) 60 [.slice none 0 0, .string ⟨#[]⟩, .string ⟨#[]⟩, .slice none 0 0, .slice none 0 0, .slice aa s.bs.length ca, .slice a5 s.cs.length c5]
    rw [World.size_alloc] at this
    exact this)
  have HOA3 := hid (own_below HOA.out HL3.out)
  have HOB3 := hid (own_below HOB.out HL3.out)
  have HOS3 := hid (own_below HOS.out HL3.out)
  have HSOK := hid (symO_ok hs)
  obtain ⟨x0, x1⟩ := HBX2.out.ra.two
  obtain ⟨y0, y1⟩ := HBX2.out.rb.two
  have HRL := hid (relas_any ab cap l la lc L (.slice na nd.length nc) mv vals W3 (HRS.out W3 HBX3.out.low))
  have HSZ := hid (show w.heap.size + 3 ≤ w2.heap.size by have := HB2.out.size; have := HWZ.out; omega)
  have hrala : w.heap.size < w2.heap.size := by have := HSZ.out; omega
  have hralb : w.heap.size + 1 < w2.heap.size := by have := HSZ.out; omega
  clear hs hoa hob hos hW3
  go_wp2_with fail
  rw [← HW3.out]
  obtain ⟨ob, hobx⟩ : ∃ ob, ob = w2.heap.size + 1 := ⟨_, rfl⟩
  rw [← hobx] at HOR0 ⊢
  have HOBL := hid (show w.heap.size + 3 ≤ ob by have := HSZ.out; omega)
  have HOR := hid HOR0.out
  have n1 : ¬ ob = w.heap.size := by have := HOBL.out; omega
  have n2 : ¬ w.heap.size = ob := by have := HOBL.out; omega
  have n3 : ¬ ob = w.heap.size + 1 := by have := HOBL.out; omega
  have n4 : ¬ w.heap.size + 1 = ob := by have := HOBL.out; omega
  have n5 : ¬ ob = w.heap.size + 1 + 1 := by have := HOBL.out; omega
  have n6 : ¬ w.heap.size + 1 + 1 = ob := by have := HOBL.out; omega
  clear hobx x0 x1 y0 y1 hrala hralb
  refine HRL.out.mono ?_
  intro e4 w4 h4
  obtain ⟨hex4, hb4⟩ := (show RelP _ _ _ _ from h4)
  have HX4 := hid (X1.of ob hb4)
  have HBX4 := hid (HBX3.out.below hb4)
  have HOR4 := hid (HOR.out.below hb4 HOR.out.lt)
  obtain ⟨o0, o1, o2, o3, o4, o5, o6⟩ := HOR4.out.seven
  obtain ⟨g0, g1, g2, g3, g4, g5, g6⟩ := HOR4.out.sevenF
  have hol := HOR4.out.lt
  clear h4 hb4
  rcases hex4 with ⟨er, hr, hne, rfl⟩ | ⟨rl, v4, hr, rfl, hor⟩
  · have HF := hid (show R = .inl er by rw [HF2.out]; unfold readC; rw [hr])
    have HER := hid hne
    have e5 : (er != 0) = true := by simpa using hne
    clear hr hne
    have HBXS := hid (fun u => HBX4.out.x1 ((X1.refl w4 ob).set 4 u) HOBL.out)
    obtain ⟨q0, q1, q2, q3, q4, q5, q6⟩ := HBX4.out.rc.seven
    obtain ⟨j0, j1, j2, j3, j4, j5, j6⟩ := HBX4.out.rc.sevenF
    have hql := HBX4.out.rc.lt
    go_wp2_with fail
    refine bodyPost_ret (v := .tuple #[.agg ob0.toArray, .int .i64 er]) (by simp [results, Tryd.results35, Tryd.f35, go_sem, ob0, q0, q1, q2, q3, q4, q5, q6, hql]) rfl ⟨.inl ⟨er, HF.out, HER.out, rfl⟩, ?_⟩
    exact bset7 (HBXS.out _).low (by omega) _ _ _ _ _ _ _
  have HF3 := hid (show R = readD t nd vals s rl by rw [HF2.out]; unfold readC; rw [hr])
  have HRLB := hid (relO_len (HRS.out W3 HBX3.out.low).vok hr)
  obtain ⟨a4, k4, hv4, _⟩ := own_rk hor (relC_len rl) (by decide)
  rw [List.length_map] at hv4
  have HOW4 := hid (own_from hor (base' := w.heap.size) (HBX3.out.low.size))
  subst hv4
  obtain ⟨W5, hW5⟩ : ∃ W5, W5 = w4.setCell ⟨ob, 4, none⟩ (.slice a4 rl.length k4) := ⟨_, rfl⟩
  have HW5 := hid hW5
  have HX5 := hid (show X1 w4 W5 ob by rw [hW5]; exact (X1.refl w4 ob).set 4 _)
  have HBX5 := hid (HBX4.out.x1 HX5.out HOBL.out)
  have HOR5 := hid (show Row W5 ob 60 [.slice none 0 0, .string ⟨#[]⟩, .string ⟨#[]⟩, .slice none 0 0, .slice a4 rl.length k4, .slice aa s.bs.length ca, .slice a5 s.cs.length c5] by rw [hW5]; exact HOR4.out.set 4 _)
  have HX35 := hid (HX4.out.trans HX5.out)
  have HOA5 := hid (own_x1 HOA3.out HOR.out (by decide) HX35.out)
  have HOB5 := hid (own_x1 HOB3.out HOR.out (by decide) HX35.out)
  have HOS5 := hid (own_x1 HOS3.out HOR.out (by decide) HX35.out)
  have HOL5 := hid (own_x1 HOW4.out HOR4.out (by decide) HX5.out)
  have HBW5 := hid (show Below W.heap.size W W5 from HB3.out.trans (HX35.out.below (by have := HOBL.out; have := HWZ.out; omega) HB3.out.size))
  have HRS5 := hid (HRS.out W5 HBX5.out.low)
  have HNM := hid (named_any na nc nd mv vals ob (.slice none 0 0) (.slice a4 rl.length k4) (.slice aa s.bs.length ca) (.slice a5 s.cs.length c5) ta tn tc t W5 (HNX.out W5 HBX5.out.low) HNL.out HNU.out HRS5.out.map HRS5.out.vok HOR5.out (HTB.out W5 HBW5.out) HTC.out HTL.out
    (fun hp b e => by
      obtain ⟨b', off, e', hc⟩ := HN0.out.some_of hp
      rw [e'] at e
      cases e
      have := World.block_lt_of_cell? w _ (hc 0 hp)
      have := HOBL.out
      simp only at *
      omega)
    (fun hp b e => by
      obtain ⟨b', off, e', hc⟩ := (HTB.out W (Below.refl _ _)).some_of hp
      rw [e'] at e
      cases e
      have := World.block_lt_of_cell? W _ (hc 0 hp)
      have := HOBL.out
      have := HWZ.out
      simp only at *
      omega))
  obtain ⟨y0, y1⟩ := HBX4.out.rb.two
  have hrbl := HBX4.out.rb.lt
  clear hr hor hW5
  go_wp2_with fail
  rw [← HW5.out]
  refine HNM.out.mono ?_
  intro e6 w6 h6
  obtain ⟨hex6, hx6⟩ := (show NamP _ _ _ _ _ _ _ _ _ from h6)
  have HX6 := hid hx6
  have HBX6 := hid (HBX5.out.x1 hx6 HOBL.out)
  clear h6 hx6 y0 y1 hrbl o0 o1 o2 o3 o4 o5 o6 g0 g1 g2 g3 g4 g5 g6 hol
  rcases hex6 with ⟨hn, rfl⟩ | ⟨nr, v6, hn, rfl, hro6, hon6⟩
  · have HF := hid (show R = .inl 25 by rw [HF3.out]; unfold readD; rw [hn])
    have HER := hid (show ¬ (25 : Int) = 0 by decide)
    clear hn
    obtain ⟨q0, q1, q2, q3, q4, q5, q6⟩ := HBX6.out.rc.seven
    obtain ⟨j0, j1, j2, j3, j4, j5, j6⟩ := HBX6.out.rc.sevenF
    have hql := HBX6.out.rc.lt
    go_wp2_with fail
    refine bodyPost_ret (v := .tuple #[.agg ob0.toArray, .int .i64 25]) (by simp [results, Tryd.results35, Tryd.f35, go_sem, ob0, q0, q1, q2, q3, q4, q5, q6, hql]) rfl ⟨.inl ⟨25, HF.out, HER.out, rfl⟩, ?_⟩
    exact bset7 (HBX6.out).low (by omega) _ _ _ _ _ _ _
  have HF4 := hid (show R = (match symS t (s.ss.drop 1) with | none => .inl 25 | some sy => readE nr s rl sy) by rw [HF3.out]; unfold readD; rw [hn])
  obtain ⟨a6, k6, hv6, _⟩ := own_cel hon6
  have HON6 := hid (own_from hon6 (base' := w.heap.size) HBX5.out.low.size)
  subst hv6
  have HOR6 := hid hro6
  have HOA6 := hid (own_x1 HOA5.out HOR5.out (by decide) HX6.out)
  have HOB6 := hid (own_x1 HOB5.out HOR5.out (by decide) HX6.out)
  have HOS6 := hid (own_x1 HOS5.out HOR5.out (by decide) HX6.out)
  have HOL6 := hid (own_x1 HOL5.out HOR5.out (by decide) HX6.out)
  have HBW6 := hid (show Below W.heap.size W w6 from HBW5.out.trans (HX6.out.below (by have := HOBL.out; have := HWZ.out; omega) HBW5.out.size))
  have HRK := hid (show Rk w6 6 as' s.ss.length (s.ss.map symC) by
    obtain ⟨a9, k9, h9, hk9, _⟩ := own_rk HOS6.out (symC_len s.ss) (by decide)
    rw [List.length_map] at h9 hk9
    cases h9
    exact hk9)
  have HSM := hid (syms_any as' cs' s.ss ta tn tc t w6 HRK.out HSOK.out.1 HSOK.out.2 (HTB.out w6 HBW6.out) HTC.out HTL.out)
  clear hn hro6 hon6
  obtain ⟨o0, o1, o2, o3, o4, o5, o6⟩ := HOR6.out.seven
  go_wp2_with fail
  refine HSM.out.mono ?_
  intro e7 w7 h7
  obtain ⟨hex7, hb7⟩ := (show SysP _ _ _ _ from h7)
  have HBX7 := hid (HBX6.out.below hb7)
  have HOR7 := hid (HOR6.out.below hb7 HOR6.out.lt)
  have HB7 := hid hb7
  clear h7 hb7 o0 o1 o2 o3 o4 o5 o6
  obtain ⟨o0, o1, o2, o3, o4, o5, o6⟩ := HOR7.out.seven
  obtain ⟨g0, g1, g2, g3, g4, g5, g6⟩ := HOR7.out.sevenF
  have hol := HOR7.out.lt
  rcases hex7 with ⟨hy, rfl⟩ | ⟨sy, v7, hy, rfl, hoy⟩
  · have HF := hid (show R = .inl 25 by rw [HF4.out, hy])
    have HER := hid (show ¬ (25 : Int) = 0 by decide)
    have HBXS := hid (fun u => HBX7.out.x1 ((X1.refl w7 ob).set 3 u) HOBL.out)
    clear hy
    obtain ⟨q0, q1, q2, q3, q4, q5, q6⟩ := HBX7.out.rc.seven
    obtain ⟨j0, j1, j2, j3, j4, j5, j6⟩ := HBX7.out.rc.sevenF
    have hql := HBX7.out.rc.lt
    go_wp2_with fail
    refine bodyPost_ret (v := .tuple #[.agg ob0.toArray, .int .i64 25]) (by simp [results, Tryd.results35, Tryd.f35, go_sem, ob0, q0, q1, q2, q3, q4, q5, q6, hql]) rfl ⟨.inl ⟨25, HF.out, HER.out, rfl⟩, ?_⟩
    exact bset7 (HBXS.out _).low (by omega) _ _ _ _ _ _ _
  have HF5 := hid (show R = readE nr s rl sy by rw [HF4.out, hy])
  obtain ⟨a7, k7, hv7, _⟩ := own_rk hoy (dsC_len sy) (by decide)
  rw [List.length_map] at hv7
  have HOD7 := hid (own_from hoy (base' := w.heap.size) HBX6.out.low.size)
  subst hv7
  obtain ⟨W8, hW8⟩ : ∃ W8, W8 = w7.setCell ⟨ob, 3, none⟩ (.slice a7 sy.length k7) := ⟨_, rfl⟩
  have HW8 := hid hW8
  have HX8 := hid (show X1 w7 W8 ob by rw [hW8]; exact (X1.refl w7 ob).set 3 _)
  have HBX8 := hid (HBX7.out.x1 HX8.out HOBL.out)
  have HOR8 := hid (show Row W8 ob 60 [.slice a6 nr.1.length k6, .string (ba nr.2.1), .string (ba nr.2.2), .slice a7 sy.length k7, .slice a4 rl.length k4, .slice aa s.bs.length ca, .slice a5 s.cs.length c5] by rw [hW8]; exact HOR7.out.set 3 _)
  have HON8 := hid (own_x1 (own_below HON6.out HB7.out) HOR7.out (by decide) HX8.out)
  have HOA8 := hid (own_x1 (own_below HOA6.out HB7.out) HOR7.out (by decide) HX8.out)
  have HOB8 := hid (own_x1 (own_below HOB6.out HB7.out) HOR7.out (by decide) HX8.out)
  have HOL8 := hid (own_x1 (own_below HOL6.out HB7.out) HOR7.out (by decide) HX8.out)
  have HOD8 := hid (own_x1 HOD7.out HOR7.out (by decide) HX8.out)
  have HRK8 := hid (show Rk W8 4 a4 rl.length (rl.map relC) by
    obtain ⟨a9, k9, h9, hk9, _⟩ := own_rk HOL8.out (relC_len rl) (by decide)
    rw [List.length_map] at h9 hk9
    cases h9
    exact hk9)
  have HRLL := hid (show rl.length ≤ 1000000000 from HRLB.out)
  clear hy hoy hW8
  go_wp2_with fail
  rw [← HW8.out]
  clear o0 o1 o2 o3 o4 o5 o6 g0 g1 g2 g3 g4 g5 g6 hol
  obtain ⟨o0, o1, o2, o3, o4, o5, o6⟩ := HOR8.out.seven
  go_wp2_with fail
  clear o0 o1 o2 o3 o4 o5 o6
  go_loopw [72] (fun i wr => ∃ k : Nat, k ≤ rl.length ∧ i = .int .i64 k ∧ (rl.take k).any (overB sy.length) = false ∧ Below W8.heap.size W8 wr) (fun i _ => rl.length - (intOf i).toNat)
  case atStart => exact ⟨0, Nat.zero_le _, rfl, rfl, Below.refl _ _⟩
  case round =>
    obtain ⟨k, hk, rfl, hno, hb⟩ := hrel
    have HB := hid hb
    have HNO := hid hno
    have HBXR := hid (HBX8.out.below hb)
    have HORR := hid (HOR8.out.below hb HOR8.out.lt)
    obtain ⟨o0, o1, o2, o3, o4, o5, o6⟩ := HORR.out.seven
    have hol := HORR.out.lt
    have hrll := HRLL.out
    clear hno
    by_cases hlt : k < rl.length
    rotate_left
    · have d1 : decide ((k : Int) < (rl.length : Int)) = false := by simp; omega
      have d1n : decide (k < rl.length) = false := by simp; omega
      have HF := hid (show R = .inr ⟨nr.1, nr.2.1, nr.2.2, sy, rl, s.bs, s.cs⟩ by
        obtain rfl : k = rl.length := by omega
        have := HNO.out
        rw [List.take_length] at this
        rw [HF5.out]
        unfold readE
        rw [this, if_neg (by decide)])
      obtain ⟨q0, q1, q2, q3, q4, q5, q6⟩ := HBXR.out.rc.seven
      obtain ⟨j0, j1, j2, j3, j4, j5, j6⟩ := HBXR.out.rc.sevenF
      have hql := HBXR.out.rc.lt
      have HON := hid (own_below HON8.out hb)
      have HOA := hid (own_below HOA8.out hb)
      have HOB := hid (own_below HOB8.out hb)
      have HOL := hid (own_below HOL8.out hb)
      have HOD := hid (own_below HOD8.out hb)
      clear hrll hlt hk hb
      go_wp2_with fail
      refine bodyPost_ret (v := .tuple #[.agg #[.slice a6 nr.1.length k6, .string (ba nr.2.1), .string (ba nr.2.2), .slice a7 sy.length k7, .slice a4 rl.length k4, .slice aa s.bs.length ca, .slice a5 s.cs.length c5], .int .i64 0]) (by simp [results, Tryd.results35, Tryd.f35, go_sem, q0, q1, q2, q3, q4, q5, q6, hql]) rfl ⟨.inr ⟨_, _, _, _, _, _, HF.out, rfl, ?_, ?_, ?_, ?_, ?_⟩, ?_⟩
      · exact own_set7 HON.out (own_ne_row HON.out HBXR.out.rc (by decide)) _ _ _ _ _ _ _
      · exact own_set7 HOD.out (own_ne_row HOD.out HBXR.out.rc (by decide)) _ _ _ _ _ _ _
      · exact own_set7 HOL.out (own_ne_row HOL.out HBXR.out.rc (by decide)) _ _ _ _ _ _ _
      · exact own_set7 HOA.out (own_ne_row HOA.out HBXR.out.rc (by decide)) _ _ _ _ _ _ _
      · exact own_set7 HOB.out (own_ne_row HOB.out HBXR.out.rc (by decide)) _ _ _ _ _ _ _
      · exact bset7 HBXR.out.low (by omega) _ _ _ _ _ _ _
    have d1 : decide ((k : Int) < (rl.length : Int)) = true := by simp; omega
    have d1n : decide (k < rl.length) = true := by simp; omega
    obtain ⟨b, off, rfl, hc⟩ := (HRK8.out.below' hb).some_of (by simp; omega)
    have hcc := hc k (by simpa using hlt)
    rw [List.getElem_map] at hcc
    have x0 := hcc 0 (by simp [relC])
    have x1 := hcc 1 (by simp [relC])
    have x2 := hcc 2 (by simp [relC])
    have x3 := hcc 3 (by simp [relC])
    simp only [relC, List.getElem_cons_zero, List.getElem_cons_succ, Nat.add_zero] at x0 x1 x2 x3
    have hbl := World.block_lt_of_cell? wr _ x0
    have HANY := hid (fun (h : overB sy.length rl[k] = true) => show R = .inl 25 by
      rw [HF5.out]
      unfold readE
      rw [if_pos (List.any_eq_true.2 ⟨rl[k], List.getElem_mem _, h⟩)])
    have HNXT := hid (fun (h : overB sy.length rl[k] = false) => any_more hlt HNO.out h)
    generalize rl[k] = x at *
    have HBA := hid (fun o => HB.out.alloc HB.out.size o)
    clear hc hcc hb
    by_cases h1 : (sy.length : Int) < x.sym
    · have e1 : decide ((sy.length : Int) < x.sym) = true := by simp; omega
      have HF := hid (HANY.out e1)
      have HER := hid (show ¬ (25 : Int) = 0 by decide)
      clear h1 hrll
      obtain ⟨q0, q1, q2, q3, q4, q5, q6⟩ := HBXR.out.rc.seven
      obtain ⟨j0, j1, j2, j3, j4, j5, j6⟩ := HBXR.out.rc.sevenF
      have hql := HBXR.out.rc.lt
      go_wp2_with fail
      refine bodyPost_ret (v := .tuple #[.agg ob0.toArray, .int .i64 25]) (by simp [results, Tryd.results35, Tryd.f35, go_sem, ob0, q0, q1, q2, q3, q4, q5, q6, hql]) rfl ⟨.inl ⟨25, HF.out, HER.out, rfl⟩, ?_⟩
      have hlow7 := fun u0 u1 u2 u3 u4 u5 u6 => bset7 HBXR.out.low (show w.heap.size ≤ w.heap.size + 1 + 1 by omega) u0 u1 u2 u3 u4 u5 u6
      exact (hlow7 _ _ _ _ _ _ _).alloc (hlow7 _ _ _ _ _ _ _).size _
    · have e1 : decide ((sy.length : Int) < x.sym) = false := by simp; omega
      have HT := hid (HNXT.out e1)
      clear h1
      go_wp2_with fail
      go_roundw
      case rel => exact ⟨k + 1, by omega, by go_num, HT.out, HBA.out _⟩
      case measure => simp [intOf]; omega
end Go.Proofs.YtkkadknijjninaaDoor
