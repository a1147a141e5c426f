
/- hostellaw08: does, of any kind; made. -/
import Derived.Test.YtlfgogjjnekfpaaDoorBcI
namespace Go.Proofs.YtlfgogjjnekfpaaDoor
open Go.RowKit Go.Sort Go.Shelf Go.WideMaps Go.Maps Go.WideShapes Go.WideElems Go.MapKept Go.ChangeMaps
attribute [local go_sem] Oper.semAt_some

theorem does_any8 (K : KP) (w0 : World) (F : Nat) (t : FT) (p g h c m ob : Nat) (vl vh : Value) (st : S8) (ex : List Nat) (ws : List Nat) (o : O8) (w : World) (H : OW K w0 F t p g h c m ob vl vh st ws w) (G : Good (rdP16 t.L) st.s (st.h ++ ex)) (hi : I64 o.i) (hp : I64 o.p)
    (hb1 : (st.h ++ ex).length ≤ 1000000) (hb2 : st.l.length ≤ 1000000) (hb3 : st.s.tn + 1 < 1000000000) :
    Calls Tryd.prog 21 #[.pointer (some ⟨ob, 0, none⟩), opV o] w (DoesP K w0 F t p g h c m ob (does8 (rdP16 t.L) st o)) := by
  obtain ⟨k, i, pg, n⟩ := o
  by_cases k0 : k = 0
  · subst k0; exact does0_any K w0 F t p g h c m ob vl vh st ex ws i pg n w H G hi hp hb1 hb2 hb3
  by_cases k1 : k = 1
  · subst k1; exact does1_any K w0 F t p g h c m ob vl vh st ex ws i pg n w H G hb1 hb2 hb3
  by_cases k2 : k = 2
  · subst k2; exact does2_any K w0 F t p g h c m ob vl vh st ex ws i pg n w H G hb1 hb2 hb3
  by_cases k3 : k = 3
  · subst k3; exact does3_any K w0 F t p g h c m ob vl vh st ex ws i pg n w H G hb1 hb2 hb3
  by_cases k4 : k = 4
  · subst k4; exact does4_any K w0 F t p g h c m ob vl vh st ex ws i pg n w H G hb1 hb2 hb3
  exact does5_any K w0 F t p g h c m ob vl vh st ex ws k i pg n w H G hb1 hb2 hb3 k0 k1 k2 k3 k4
def run8 (rd : Int → Int → List UInt8 × Int) (st : S8) (l : List O8) : S8 := l.foldl (does8 rd) st
theorem run8_snoc (rd : Int → Int → List UInt8 × Int) (st : S8) (l : List O8) (o : O8) : run8 rd st (l ++ [o]) = does8 rd (run8 rd st l) o := by simp [run8, List.foldl_append]
/-- What a run keeps. -/
structure Ran (rd : Int → Int → List UInt8 × Int) (st st' : S8) (ex : List Nat) (k : Nat) : Prop where
  good : Good rd st'.s (st'.h ++ ex)
  len : st'.s.fs.length = st.s.fs.length
  tn : st'.s.tn ≤ st.s.tn + k
  ll : st'.l.length ≤ st.l.length + k
  hh : st'.h.length ≤ st.h.length + k
theorem run8_ran {rd : Int → Int → List UInt8 × Int} {st : S8} {ex : List Nat} (G : Good rd st.s (st.h ++ ex)) (hr : ∀ i p, (rd i p).1.length ≤ 4096) (l : List O8) : Ran rd st (run8 rd st l) ex l.length := by
  rcases l.eq_nil_or_concat with rfl | ⟨e, x, rfl⟩
  · exact ⟨G, rfl, Nat.le_refl _, Nat.le_refl _, Nat.le_refl _⟩
  · have ih := run8_ran G hr e
    have h := does8_did x ih.good hr
    rw [List.concat_eq_append, run8_snoc, List.length_append, List.length_singleton]
    exact ⟨h.good, h.len.trans ih.len, by have := h.tn; have := ih.tn; omega, by have := h.ll; have := ih.ll; omega, by have := h.hh; have := ih.hh; omega⟩
termination_by l.length
decreasing_by simp_all
def o8C (o : O8) : List Value := [.int .i64 o.kind, .int .i64 o.i, .int .i64 o.p, .int .i64 o.n]
/-- What is done, as an argument. -/
structure Ops8 (w : World) (a : Option Addr) (l : List O8) : Prop where
  rows : Rk w 4 a l.length (l.map o8C)
  ok : ∀ o ∈ l, I64 o.i ∧ I64 o.p
theorem Ops8.below {w w' : World} {a : Option Addr} {l : List O8} (h : Ops8 w a l) (hb : Below w.heap.size w w') : Ops8 w' a l := ⟨h.rows.below' hb, h.ok⟩
/-- A cache at its begin. -/
def st08 (n : Nat) : S8 := ⟨⟨List.replicate n fr0, [], 0⟩, [], []⟩
theorem good08 (rd : Int → Int → List UInt8 × Int) (n : Nat) : Good rd (st08 n).s ((st08 n).h ++ []) := good0 rd n
set_option maxRecDepth 100000 in
theorem poolBad_any (n : Int) (w : World) (hn : n < 1 ∨ 1024 < n) : Calls Tryd.prog 12 #[.int .i64 n] w fun e w' => e = .returned (.tuple #[.pointer none, .int .i64 1]) ∧ w = w' := by
  by_cases c1 : n < 1
  · have d1 : decide (n < 1) = true := decide_eq_true c1
    clear c1 hn
    go_enter Tryd.func12, Tryd.ntmps12
    go_wp2_with fail
    go_ret2
    exact ⟨rfl, rfl⟩
  · have d1 : decide (n < 1) = false := decide_eq_false c1
    have d2 : decide (1024 < n) = true := by simp; omega
    clear c1 hn
    go_enter Tryd.func12, Tryd.ntmps12
    go_wp2_with fail
    go_ret2
    exact ⟨rfl, rfl⟩
/-- Each node is a file, a directory or a link. -/
def KOk (L : List ND) : Prop := ∀ i, i < L.length → (L.getD i default).kind = 1 ∨ (L.getD i default).kind = 2 ∨ (L.getD i default).kind = 3
theorem KOk.add {L : List ND} (h : KOk L) (j : Nat) (nm : BL) (nd : ND) (hk : nd.kind = 1 ∨ nd.kind = 2 ∨ nd.kind = 3) : KOk (addN L j nm nd) := by
  intro i hi
  rw [addN_len] at hi
  by_cases e : i = L.length
  · subst e; rw [addN_new]; exact hk
  · obtain ⟨ns, e1, _⟩ := addN_same L j nm nd (show i < L.length by omega)
    rw [e1]
    exact h i (by omega)
theorem addE_kok {L : List ND} (h : KOk L) (x : EN) : KOk (addE L x).2 := by
  unfold addE
  split
  · exact h
  · rename_i ds e
    have hx : x.kind = 1 ∨ x.kind = 2 ∨ x.kind = 3 := by
      by_cases hb : entB x
      · have := hb.1
        unfold rightK at this
        by_cases k1 : x.kind = 1
        · exact .inl k1
        · by_cases k2 : x.kind = 2
          · exact .inr (.inl k2)
          · by_cases k3 : x.kind = 3
            · exact .inr (.inr k3)
            · rw [if_neg k1, if_neg k2, if_neg k3] at this; cases this
      · rw [entP_no hb] at e; cases e
    split
    · exact h
    · split
      · exact h
      · split
        · exact h
        · split
          · exact h.add _ _ _ hx
          · exact h
theorem newE_kok : ∀ (xs : List EN) {L : List ND} (i : Nat), KOk L → KOk (newE L i xs).2.2
  | [], _, _, h => h
  | x :: xs, L, i, h => by
    by_cases h1 : (addE L x).1 = 0
    · rw [newE_go h1]; exact newE_kok xs _ (addE_kok h x)
    · rw [newE_no h1]; exact h
theorem kok0 : KOk [root0] := by
  intro i hi
  obtain rfl : i = 0 := by simpa using hi
  exact .inr (.inl rfl)
/-- What made leaves. -/
def MadeP (w : World) (l : List O8) (e : Ending) (w' : World) : Prop := (e = .returned (.pointer none) ∧ Below w.heap.size w w') ∨
  ∃ w0 F t p g h c m ob vl vh ws, ∃ n : Nat, e = .returned (.pointer (some ⟨ob, 0, none⟩)) ∧ OW nK w0 F t p g h c m ob vl vh (run8 (rdP16 t.L) (st08 n) l) ws w' ∧ Below w.heap.size w w0 ∧ 1 ≤ n ∧ n ≤ 64 ∧ KOk t.L
set_option maxRecDepth 100000 in
set_option maxHeartbeats 8000000 in
theorem made8_any (a : Option Addr) (cap : Nat) (xs : List EN) (N : Int) (oa : Option Addr) (oc : Nat) (l : List O8) (w : World) (hX : Ents w a xs.length xs) (hxl : xs.length ≤ 64) (hN : N ≤ 64) (hO : Ops8 w oa l) (hol : l.length ≤ 200) (hT : Tb w) :
    Calls Tryd.prog 20 #[flV a xs.length cap N, .slice oa l.length oc] w (MadeP w l) := by
  obtain ⟨w1, hw1⟩ : ∃ w1, w1 = w.alloc (.cells #[.slice a xs.length cap, .int .i64 N] 43) := ⟨_, rfl⟩
  have HB1 := hid (show Below w.heap.size w w1 by rw [hw1]; exact bal _)
  have HR1 := hid (show Row w1 w.heap.size 43 [.slice a xs.length cap, .int .i64 N] by rw [hw1]; exact Row.new w _ _)
  have HTW := hid (twins_any a cap xs w1 ⟨hX.rows.below' HB1.out, fun x hx => (hX.ok x hx).below HB1.out⟩ (by omega))
  have HXL := hid hxl
  have HN := hid hN
  have HO := hid hO
  have HOL := hid hol
  have HTT := hid hT
  have HW1 := hid hw1
  clear hX hw1 hxl hN hO hol hT
  unfold flV
  go_enter Tryd.func20, Tryd.ntmps20
  go_wp2_with fail
  rw [← HW1.out]
  refine (HTW.out).mono ?_
  rintro e w2 ⟨v, ys, rfl, hC⟩
  have HYL := hid (show ys.length = xs.length from hC.len)
  obtain ⟨av, cv, rfl, hrk, _⟩ := own_rk hC.own (enC_len ys) (by omega)
  have HB2 := hid (bthen HB1.out hC.below)
  have HNW := hid (new_any av ys.length cv ys w2 ⟨hrk, hC.ok⟩ (by have := HYL.out; have := HXL.out; omega))
  have hr2 := HR1.out.below hC.below HR1.out.lt
  obtain ⟨r0, r1⟩ := hr2.two
  have hrl := hr2.lt
  have HR2 := hid hr2
  clear hC hrk hr2
  go_wp2_with fail
  refine (HNW.out).mono ?_
  rintro e w3 ⟨hb3, hp⟩
  rw [if_neg (by have := HYL.out; have := HXL.out; omega)] at hp
  have HB3 := hid (bthen HB2.out hb3)
  have HR3 := hid (HR2.out.below hb3 HR2.out.lt)
  have HB23 := hid hb3
  clear r0 r1 hrl hb3
  obtain ⟨r0, r1⟩ := HR3.out.two
  have hrl := HR3.out.lt
  by_cases hz : (newE [root0] 0 ys).1 = 0
  · rw [if_pos hz] at hp
    obtain ⟨F, t, rfl, htl, hfs, hF, hfar⟩ := hp
    have HFS := hid hfs
    have HKD := hid (show KOk t.L from htl ▸ newE_kok _ _ kok0)
    clear htl hfs hF hfar hz
    by_cases hn : N < 1
    · have HPN := hid (poolBad_any N w3 (.inl hn))
      clear hn
      go_wp2_with fail
      refine (HPN.out).mono ?_
      rintro e w4 ⟨rfl, rfl⟩
      go_wp2_with fail
      go_ret
      exact .inl ⟨rfl, HB3.out⟩
    · obtain ⟨n, rfl⟩ := Int.eq_ofNat_of_zero_le (show 0 ≤ N by omega)
      have HNN := hid (show 1 ≤ n ∧ n ≤ 64 by have := HN.out; omega)
      have HPN := hid (poolNew_any n w3 (by have := HNN.out; omega) (by have := HNN.out; omega))
      clear hn
      go_wp2_with fail
      refine (HPN.out).mono ?_
      rintro e w4 ⟨p, g, h, ws, rfl, hpl, hp1, hg1, hh1, hb⟩
      have HT3 := hid (show Tb w3 from fun j hj => St.cell (HTT.out j hj) HB3.out)
      have HCN := hid (cnew_any F t p g h (List.replicate n fr0) ws w3 w4 HFS.out hb hpl hg1 hh1 HT3.out)
      have HB4 := hid hb
      clear hpl hp1 hg1 hh1 hb r0 r1 hrl
      go_wp2_with fail
      refine (HCN.out).mono ?_
      rintro e w5 ⟨c, m, rfl, hcw, hb, hc1, hm1⟩
      have HB5 := hid (HB4.out.trans (hb.mono HB4.out.size))
      obtain ⟨w6, hw6⟩ : ∃ w6, w6 = w5.alloc (.cells #[.pointer (some ⟨p, 0, none⟩), .pointer (some ⟨F, 0, none⟩), .pointer (some ⟨c, 0, none⟩), .slice none 0 0, .slice none 0 0] 53) := ⟨_, rfl⟩
      have HOW := hid (show OW nK w3 F t p g h c m w5.heap.size (.slice none 0 0) (.slice none 0 0) (st08 n) ws w6 from by
        rw [hw6]
        exact ⟨Row.new w5 _ _, hcw.below (bal _), World.ownsRow_nil _ _ _ _, World.ownsRow_nil _ _ _ _, HB5.out.size, fun k e => (by cases e), World.ownsRow_nil _ _ _ _⟩)
      have HW6 := hid hw6
      obtain ⟨ob, hob⟩ : ∃ ob, ob = w5.heap.size := ⟨_, rfl⟩
      rw [← hob] at HOW
      clear hcw hb hc1 hm1 hw6
      go_wp2_with fail
      rw [← HW6.out, ← hob]
      clear hob
      go_loopw [12] (fun i wr => ∃ (k : Nat) (vl vh : Value) (wsk : List Nat), k ≤ l.length ∧ i = .int .i64 k ∧ OW nK w3 F t p g h c m ob vl vh (run8 (rdP16 t.L) (st08 n) (l.take k)) wsk wr) (fun i _ => l.length - (intOf i).toNat)
      case atStart => exact ⟨0, _, _, ws, Nat.zero_le _, rfl, HOW.out⟩
      case round =>
        obtain ⟨k, vl, vh, wsk, hk, rfl, how⟩ := hrel
        have HOK := hid how
        have HOR := hid (HO.out.below (HB3.out.trans (how.cw.low.mono HB3.out.size)))
        have hol := HOL.out
        clear how
        by_cases hlt : k < l.length
        · have d1 : decide ((k : Int) < (l.length : Int)) = true := by simp; omega
          have d1n : decide (k < l.length) = true := by simp; omega
          have hran := run8_ran (good08 (rdP16 t.L) n) (rdP16_len t.L) (l.take k)
          have hlk : (l.take k).length = k := by rw [List.length_take]; omega
          rw [hlk] at hran
          have HDO := hid (does_any8 nK w3 F t p g h c m ob vl vh _ [] wsk l[k] _ HOK.out hran.good (HOR.out.ok _ (List.getElem_mem hlt)).1 (HOR.out.ok _ (List.getElem_mem hlt)).2 (by have := hran.hh; have z : (st08 n).h.length = 0 := rfl; rw [List.append_nil]; omega) (by have := hran.ll; have z : (st08 n).l.length = 0 := rfl; omega) (by have := hran.tn; have z : (st08 n).s.tn = 0 := rfl; omega))
          rw [← run8_snoc, ← List.take_succ_eq_append_getElem hlt] at HDO
          obtain ⟨b, o, rfl, hcell⟩ := HOR.out.rows.some_of (by simp; omega)
          have gq := fun j hj => hcell k (by simpa using hlt) j hj
          have e9 : (l.map o8C)[k]'(by simpa using hlt) = o8C l[k] := by simp
          rw [e9] at gq
          have g0 := gq 0 (by simp [o8C])
          have g1 := gq 1 (by simp [o8C])
          have g2 := gq 2 (by simp [o8C])
          have g3 := gq 3 (by simp [o8C])
          simp only [o8C, List.getElem_cons_zero, List.getElem_cons_succ, Nat.add_zero] at g0 g1 g2 g3
          unfold opV at HDO
          clear hran hlk gq e9 hcell
          generalize l[k] = oo at *
          go_wp2_with fail
          refine (HDO.out).mono ?_
          rintro e w7 ⟨rfl, vl', vh', ws', how⟩
          have HOK7 := hid how
          clear how g0 g1 g2 g3
          go_wp2_with fail
          go_roundw
          case rel => exact ⟨k + 1, vl', vh', ws', by omega, by go_num, HOK7.out⟩
          case measure => simp [intOf]; omega
        · have d1 : decide ((k : Int) < (l.length : Int)) = false := by simp; omega
          have d1n : decide (k < l.length) = false := by simp; omega
          obtain rfl : k = l.length := by omega
          rw [List.take_length] at HOK
          go_wp2_with fail
          go_ret
          exact .inr ⟨w3, F, t, p, g, h, c, m, ob, vl, vh, wsk, n, rfl, HOK.out, HB3.out, HNN.out.1, HNN.out.2, HKD.out⟩
  · rw [if_neg hz] at hp
    subst hp
    have d1b : ((newE [root0] 0 ys).1 != 0) = true := by simp [hz]
    have HPN := hid (show Calls Tryd.prog 12 #[.int .i64 N] w3 fun e w' => (∃ q er, e = .returned (.tuple #[.pointer q, .int .i64 er])) ∧ Below w3.heap.size w3 w' from by
      by_cases hn : N < 1
      · refine (poolBad_any N w3 (.inl hn)).mono ?_
        rintro e w' ⟨rfl, rfl⟩
        exact ⟨⟨_, _, rfl⟩, Below.refl _ _⟩
      · obtain ⟨n, rfl⟩ := Int.eq_ofNat_of_zero_le (show 0 ≤ N by omega)
        refine (poolNew_any n w3 (by omega) (by have := HN.out; omega)).mono ?_
        rintro e w' ⟨p, g, h, ws, rfl, _, _, _, _, hb⟩
        exact ⟨⟨_, _, rfl⟩, hb⟩)
    generalize (newE [root0] 0 ys).1 = er at *
    go_wp2_with fail
    refine (HPN.out).mono ?_
    rintro e w4 ⟨⟨q, er2, rfl⟩, hb⟩
    have HB4 := hid (bthen HB3.out hb)
    clear hb
    go_wp2_with fail
    go_ret
    exact .inl ⟨rfl, HB4.out⟩
end Go.Proofs.YtlfgogjjnekfpaaDoor
