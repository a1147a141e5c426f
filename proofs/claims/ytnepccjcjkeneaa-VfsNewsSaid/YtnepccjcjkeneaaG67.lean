
/- hostellaw06.made: what was handed in is spoilt; both file systems stand. -/
import Derived.Test.YtnepccjcjkeneaaG63
import Derived.Test.YtnepccjcjkeneaaKT
import Derived.Test.YtnepccjcjkeneaaFP0
import Derived.StillTailTactics
namespace Go.Proofs.Ytnepccjcjkeneaa
open Go.RowKit Go.Sort

theorem addE_twin6 (L : List ND) (x : EN) (a : Option Addr) (c : Nat) : addE L { x with a := a, c := c } = addE L x := rfl
theorem newE_twin6 : ∀ (ys xs : List EN) (L : List ND) (k : Nat), ys.length = xs.length → (∀ i (h : i < ys.length) (h' : i < xs.length), ys[i] = { xs[i] with a := ys[i].a, c := ys[i].c }) → newE L k ys = newE L k xs
  | [], [], _, _, _, _ => rfl
  | [], x :: xs, _, _, h, _ => by simp at h
  | y :: ys, [], _, _, h, _ => by simp at h
  | y :: ys, x :: xs, L, k, h, ht => by
    have h0 : y = { x with a := y.a, c := y.c } := ht 0 (by simp) (by simp)
    have he : addE L y = addE L x := by rw [h0]; exact addE_twin6 L x _ _
    have hr : ∀ L' k', newE L' k' ys = newE L' k' xs := fun L' k' => newE_twin6 ys xs L' k' (by simpa using h) (fun i h1 h2 => ht (i + 1) (by simpa using h1) (by simpa using h2))
    by_cases hx : (addE L x).1 = 0
    · rw [newE_go hx, newE_go (by rw [he]; exact hx), he, hr]
    · rw [newE_no hx, newE_no (by rw [he]; exact hx), he]

/-- Between two worlds only rows of entries and of bytes have turned, and these in blocks from lo on, below hi. -/
structure Sp (lo hi : Nat) (w3 w : World) : Prop where
  keep : ∀ b, b < w3.heap.size → (b < lo ∨ hi ≤ b) → w.heap[b]? = w3.heap[b]?
  rows : ∀ (b : Nat) (cs : Array Value) (T : TypeId), w3.heap[b]? = some (Obj.cells cs T (0, 0)) → ∃ cs', w.heap[b]? = some (Obj.cells cs' T (0, 0))
  kind : ∀ (b : Nat) (o : Obj), w3.heap[b]? = some o → (∀ cs, o ≠ Obj.cells cs 77 (0, 0)) → (∀ cs, o ≠ Obj.cells cs 5 (0, 0)) → w.heap[b]? = some o
  size : w3.heap.size ≤ w.heap.size
theorem Sp.refl (lo hi : Nat) (w : World) : Sp lo hi w w := ⟨fun _ _ _ => rfl, fun _ cs _ h => ⟨cs, h⟩, fun _ _ h _ _ => h, Nat.le_refl _⟩
theorem Sp.below {lo hi : Nat} {w3 w w' : World} (h : Sp lo hi w3 w) (hb : Below w.heap.size w w') : Sp lo hi w3 w' :=
  ⟨fun b hl hk => by rw [hb.block b (Nat.lt_of_lt_of_le hl h.size)]; exact h.keep b hl hk, fun b cs T hc => by
    obtain ⟨cs', k⟩ := h.rows b cs T hc
    exact ⟨cs', by rw [hb.block b (Array.getElem?_eq_some_iff.1 k).1]; exact k⟩, fun b o ho n1 n2 => by
    have k := h.kind b o ho n1 n2
    rw [hb.block b (Array.getElem?_eq_some_iff.1 k).1]; exact k, Nat.le_trans h.size hb.size⟩
theorem Sp.drewN {lo hi : Nat} {w3 w : World} (h : Sp lo hi w3 w) (n : Nat) : Sp lo hi w3 (w.drewN n) := ⟨h.keep, h.rows, h.kind, h.size⟩
theorem Sp.drew {lo hi : Nat} {w3 w : World} (h : Sp lo hi w3 w) : Sp lo hi w3 w.drew := ⟨h.keep, h.rows, h.kind, h.size⟩
theorem Sp.set {lo hi : Nat} {w3 w : World} (h : Sp lo hi w3 w) {g o : Nat} (h1 : lo ≤ g) (h2 : g < hi) (hk : ∃ cs, w3.heap[g]? = some (Obj.cells cs 77 (0, 0)) ∨ w3.heap[g]? = some (Obj.cells cs 5 (0, 0))) (u : Value) : Sp lo hi w3 (w.setCell ⟨g, o, none⟩ u) := by
  refine ⟨fun b hb hl => ?_, fun b cs T hb => ?_, fun b ob hb n1 n2 => ?_, by rw [World.size_setCell]; exact h.size⟩
  · rw [heap_setCell_other _ _ _ _ (by simp only; omega)]
    exact h.keep b hb hl
  · obtain ⟨cs', k⟩ := h.rows b cs T hb
    by_cases e : b = g
    · subst e
      exact ⟨_, heap_setCell_same w b o cs' T u k⟩
    · exact ⟨cs', by rw [heap_setCell_other _ _ _ _ (by exact e)]; exact k⟩
  · have hne : b ≠ g := by
      rintro rfl
      obtain ⟨cs, k | k⟩ := hk
      · rw [hb] at k; cases k; exact n1 cs rfl
      · rw [hb] at k; cases k; exact n2 cs rfl
    rw [heap_setCell_other _ _ _ _ (by exact hne)]
    exact h.kind b ob hb n1 n2
theorem Sp.row {lo hi : Nat} {w3 w : World} (h : Sp lo hi w3 w) {b T : Nat} {cs : List Value} (hr : Row w3 b T cs) (h1 : T ≠ 77) (h2 : T ≠ 5) : Row w b T cs :=
  ⟨h.kind b _ hr.heap (fun c e => by cases e; exact h1 rfl) (fun c e => by cases e; exact h2 rfl)⟩
theorem Sp.own {lo hi : Nat} {w3 w : World} (h : Sp lo hi w3 w) {base T size n : Nat} {v : Value} {xs : List Value} (ho : w3.ownsRow base T size v n xs) (h1 : T ≠ 77) (h2 : T ≠ 5) : w.ownsRow base T size v n xs := by
  refine ⟨ho.1, ?_⟩
  rcases ho.2 with hn | ⟨g, cap, cur, hv, hbg, hg, r⟩
  · exact .inl hn
  · exact .inr ⟨g, cap, cur, hv, hbg, h.kind g _ hg (fun c e => by cases e; exact h1 rfl) (fun c e => by cases e; exact h2 rfl), r⟩
theorem Sp.own8 {lo hi : Nat} {w3 w : World} (h : Sp lo hi w3 w) {T size n : Nat} {v : Value} {xs : List Value} (ho : w3.ownsRow hi T size v n xs) : w.ownsRow hi T size v n xs := by
  refine ⟨ho.1, ?_⟩
  rcases ho.2 with hn | ⟨g, cap, cur, hv, hbg, hg, r⟩
  · exact .inl hn
  · exact .inr ⟨g, cap, cur, hv, hbg, by rw [h.keep g (Array.getElem?_eq_some_iff.1 hg).1 (.inr hbg)]; exact hg, r⟩
theorem Sp.fs {lo hi : Nat} {w3 w : World} (h : Sp lo hi w3 w) {F : Nat} {t : FT} (hf : FSat w3 F t) (hr : Far hi w3 t) : FSat w F t := by
  refine ⟨hf.fine, ?_, fun i hi' => ?_⟩
  · obtain ⟨v, h1, h2⟩ := hf.top
    exact ⟨v, h.row h1 (by decide) (by decide), h.own h2 (by decide) (by decide)⟩
  · have hn := hf.node i hi'
    refine ⟨fun k => ?_, fun k => h.row (hn.link k) (by decide) (by decide), fun k k' => ?_⟩
    · obtain ⟨h1, h2⟩ := hn.dir k
      obtain ⟨es, c, ho⟩ := h2.obj
      exact ⟨h.row h1 (by decide) (by decide), h2.same (by rw [ho]; exact h.kind _ _ ho (fun c e => by cases e) (fun c e => by cases e))⟩
    · obtain ⟨v, h1, h2⟩ := hr i hi' k k'
      exact ⟨v, h.row h1 (by decide) (by decide), own_from (h.own8 h2) (Nat.zero_le _)⟩
theorem Sp.rf {lo hi : Nat} {w0 w3 w : World} (h : Sp lo hi w3 w) {G : Nat} {v : Value} {L : List ND} {d : Nat → Option Addr × Nat} (hb : RB w0 w3 G v L d) (hh : hi ≤ w0.heap.size) (hfi : Fine L) (hL : ∃ P, Lay L P) (hK : Kid L) : RF w G L d := by
  refine ⟨hfi, hL, hK, ?_, fun i hi' => ?_⟩
  · obtain ⟨a, c, rfl, h1, _⟩ := own_rk (h.own hb.own (by decide) (by decide)) (rrs_nine L d) (by omega)
    exact ⟨a, c, h.row hb.row (by decide) (by decide), h1⟩
  · obtain ⟨h1, h2, h3⟩ := hb.data i hi'
    exact ⟨h1.same (fun b e => h.keep _ (h3 b e).2.1 (.inr (Nat.le_trans hh (h3 b e).1))), h2⟩

/-- What is left of the copies from number k on. -/
structure Lft (w : World) (gv : Nat) (ys : List EN) (k : Nat) : Prop where
  cell : ∀ i (h : i < ys.length), k ≤ i → ∀ j (hj : j < 7), w.cell? ⟨gv, i * 7 + j, none⟩ = some (ys[i].cs[j]'hj)
  byt : ∀ i (h : i < ys.length), k ≤ i → Byt w ys[i].a ys[i].data.length ys[i].data
theorem Lft.below {w w' : World} {gv k : Nat} {ys : List EN} (h : Lft w gv ys k) (hb : Below w.heap.size w w') : Lft w' gv ys k := ⟨fun i hi hk j hj => keepC hb (h.cell i hi hk j hj), fun i hi hk => (h.byt i hi hk).below' hb⟩
theorem Lft.drewN {w : World} {gv k : Nat} {ys : List EN} (h : Lft w gv ys k) (n : Nat) : Lft (w.drewN n) gv ys k := ⟨fun i hi hk j hj => h.cell i hi hk j hj, fun i hi hk => ⟨(h.byt i hi hk).hlen, (h.byt i hi hk).cell⟩⟩
def MadePost (w : World) (xs : List EN) (e : Ending) (w' : World) : Prop := Below w.heap.size w w' ∧
  if ¬ 64 < xs.length ∧ (newE [root0] 0 xs).1 = 0 then ∃ F t G d, e = .returned (.tuple #[.pointer (some ⟨F, 0, none⟩), .pointer (some ⟨G, 0, none⟩), .bool true]) ∧ t.L = (newE [root0] 0 xs).2.2 ∧ FSat w' F t ∧ RF w' G t.L d
  else e = .returned (.tuple #[.pointer none, .pointer none, .bool true])
theorem Lft.set {w : World} {gv k : Nat} {ys : List EN} (h : Lft w gv ys k) {o : Nat} (ho : o < k * 7) (hf : ∀ y ∈ ys, ∀ b, y.a = some b → b.block ≠ gv) (u : Value) : Lft (w.setCell ⟨gv, o, none⟩ u) gv ys k := by
  refine ⟨fun i hi hk j hj => ?_, fun i hi hk => (h.byt i hi hk).same (fun b e => heap_setCell_other _ _ _ _ (by exact hf _ (List.getElem_mem hi) b e))⟩
  rw [World.cell?_setCell_other _ _ _ _ (by simp only [ne_eq, Addr.mk.injEq, and_true, true_and]; omega)]
  exact h.cell i hi hk j hj
theorem Lft.setD {w : World} {gv k db o : Nat} {ys : List EN} (h : Lft w gv ys k) (hg : db ≠ gv) (hf : ∀ i (hi : i < ys.length), k ≤ i → ∀ b, ys[i].a = some b → b.block ≠ db) (u : Value) : Lft (w.setCell ⟨db, o, none⟩ u) gv ys k := by
  refine ⟨fun i hi hk j hj => ?_, fun i hi hk => (h.byt i hi hk).same (fun b e => heap_setCell_other _ _ _ _ (by exact hf i hi hk b e))⟩
  rw [World.cell?_setCell_other _ _ _ _ (by simp only [ne_eq, Addr.mk.injEq, and_true]; omega)]
  exact h.cell i hi hk j hj
theorem seven_at {w : World} {gv k : Nat} {x : EN} {a : Option Addr} {c : Nat} (h : ∀ j (hj : j < 7), w.cell? ⟨gv, k * 7 + j, none⟩ = some (({ x with a := a, c := c } : EN).cs[j]'hj)) : (w.cell? ⟨gv, k * 7, none⟩ = some (.string (ba x.path)) ∧ w.cell? ⟨gv, k * 7 + 1, none⟩ = some (.int .u8 x.kind) ∧ w.cell? ⟨gv, k * 7 + 2, none⟩ = some (.int .u16 x.mode) ∧ w.cell? ⟨gv, k * 7 + 3, none⟩ = some (.int .u32 x.uid)) ∧ w.cell? ⟨gv, k * 7 + 4, none⟩ = some (.int .u32 x.gid) ∧ w.cell? ⟨gv, k * 7 + 5, none⟩ = some (.slice a x.data.length c) ∧ w.cell? ⟨gv, k * 7 + 6, none⟩ = some (.string (ba x.to)) :=
  ⟨⟨h 0 (by omega), h 1 (by omega), h 2 (by omega), h 3 (by omega)⟩, h 4 (by omega), h 5 (by omega), h 6 (by omega)⟩

set_option maxRecDepth 100000 in
set_option maxHeartbeats 16000000 in
theorem made_any (a : Option Addr) (c : Nat) (xs : List EN) (w : World) (hX : Ents w a xs.length xs) (hn : xs.length ≤ 1000000) :
    Calls Try.prog 11 #[.slice a xs.length c] w (MadePost w xs) := by
  have HX := hid hX
  clear hX
  go_enter Try.func11, Try.ntmps11
  go_wp2_with fail
  refine (copyE_any a xs.length c xs w HX.out hn).mono ?_
  rintro e' w1 ⟨v, ys, rfl, hC⟩
  have hlen := hC.len
  obtain ⟨av, cv, rfl, hrk, _, hcv, _, hG⟩ := own_rk hC.own (enC_len ys) (by omega)
  obtain ⟨gv, hgv⟩ : ∃ gv, ∀ hp : 0 < xs.length, av = some ⟨gv, 0, none⟩ ∧ w.heap.size ≤ gv ∧ gv < w1.heap.size ∧ (∃ cs, w1.heap[gv]? = some (Obj.cells cs 77 (0, 0))) ∧ ∀ y ∈ ys, ∀ b, y.a = some b → b.block ≠ gv := by
    by_cases hp : 0 < xs.length
    · obtain ⟨b, o, e, _⟩ := hrk.some_of (by simp; omega)
      obtain ⟨G, e2, h1, h2⟩ := hG _ e
      cases e2
      refine ⟨b, fun _ => ⟨e, h1, h2, ?_, fun y hy b' hb' => ?_⟩⟩
      · rcases hC.own.2 with ⟨h, _⟩ | ⟨g, cap, cur, hv, _, hg, _⟩
        · rw [e] at h; cases h
        · rw [e] at hv; cases hv; exact ⟨cur, hg⟩
      · have := (hC.far y hy b' hb').2
        rw [e] at this
        intro q
        apply this
        rw [q]; rfl
    · exact ⟨0, fun h => absurd h hp⟩
  have HGV := hid hgv
  have HLF1 := hid (show ∀ hp : 0 < xs.length, Lft w1 gv ys 0 from fun hp => ⟨fun i hi _ j hj => by
      have e := (hgv hp).1
      obtain ⟨b, o, e2, hat⟩ := hrk.some_of (by simp; omega)
      rw [e] at e2; cases e2
      have e9 : (ys.map EN.cs)[i]'(by simpa using hi) = ys[i].cs := by simp
      have := hat i (by simpa using hi) j (by rw [e9]; exact hj)
      simp only [e9] at this
      rw [Nat.zero_add] at this
      exact this, fun i hi _ => (hC.ok _ (List.getElem_mem hi)).byt⟩)
  have HTW := hid hC.twin
  have HAP := hid hC.apart
  have HLO := hid hC.low
  have HOB := hid hC.objs
  have HFR := hid hC.far
  have HNE := hid (show newE [root0] 0 ys = newE [root0] 0 xs from newE_twin6 ys xs _ 0 hlen hC.twin)
  have HEN := hid hC.ents.2
  have HB1 := hid hC.below
  have HLN := hid hlen
  clear hC hgv hrk hG
  rw [hlen]
  go_wp2_with fail
  refine (new_any _ _ _ ys w1 (hlen ▸ HEN.out) (by omega)).mono ?_
  rintro e' w2 ⟨hb2, hp⟩
  have HRN := hid (rnew_any a xs.length c xs w2 (HX.out.below (HB1.out.trans (hb2.mono HB1.out.size))) hn)
  rw [HLN.out, HNE.out] at hp
  have HB2 := hid (bthen HB1.out hb2)
  have HB12 := hid hb2
  clear hb2 hlen
  obtain ⟨p1, er, ix, rfl, hrest⟩ : ∃ (p1 : Option Addr) (er ix : Int), e' = .returned (.tuple #[.pointer p1, .int .i64 er, .int .i64 ix]) ∧ ∀ e9 w3, RNews w2 xs e9 w3 → Below w2.heap.size w2 w3 ∧ ∃ p2, e9 = .returned (.tuple #[.pointer p2, .int .i64 er, .int .i64 ix]) ∧ ((∃ F G, p1 = some ⟨F, 0, none⟩ ∧ p2 = some ⟨G, 0, none⟩) ∨ (p1 = none ∧ p2 = none)) ∧ ∀ wz, Sp w.heap.size w1.heap.size w3 wz → Below w.heap.size w wz → MadePost w xs (.returned (.tuple #[.pointer p1, .pointer p2, .bool true])) wz := by
    by_cases hok : ¬ 64 < xs.length ∧ (newE [root0] 0 xs).1 = 0
    · rw [if_neg hok.1, if_pos hok.2] at hp
      obtain ⟨F, t, rfl, htl, hfs, _, hfar⟩ := hp
      refine ⟨_, _, _, rfl, fun e9 w3 h9 => ?_⟩
      obtain ⟨hb3, h9⟩ := h9
      rw [if_neg hok.1, if_pos hok.2] at h9
      obtain ⟨G, gw, d, rfl, hrb, hfine⟩ := h9
      refine ⟨hb3, _, rfl, .inl ⟨F, G, rfl, rfl⟩, fun wz hs hb => ⟨hb, ?_⟩⟩
      rw [if_pos hok]
      refine ⟨F, t, G, d, rfl, htl, hs.fs (hfs.below hb3) (hfar.below hb3), ?_⟩
      rw [htl]
      obtain ⟨P, h3, _⟩ := lay_new xs [root0] _ 0 lay0 hok.2
      exact hs.rf hrb HB12.out.size hfine ⟨P, h3⟩ (lay_kid xs [root0] _ 0 lay0 kid0 hok.2)
    · by_cases h64 : 64 < xs.length
      · rw [if_pos h64] at hp
        refine ⟨_, _, _, hp, fun e9 w3 h9 => ?_⟩
        obtain ⟨hb3, h9⟩ := h9
        rw [if_pos h64] at h9
        exact ⟨hb3, _, h9, .inr ⟨rfl, rfl⟩, fun wz hs hb => ⟨hb, by rw [if_neg hok]⟩⟩
      · have hn0 : ¬ (newE [root0] 0 xs).1 = 0 := fun h => hok ⟨h64, h⟩
        rw [if_neg h64, if_neg hn0] at hp
        refine ⟨_, _, _, hp, fun e9 w3 h9 => ?_⟩
        obtain ⟨hb3, h9⟩ := h9
        rw [if_neg h64, if_neg hn0] at h9
        exact ⟨hb3, _, h9, .inr ⟨rfl, rfl⟩, fun wz hs hb => ⟨hb, by rw [if_neg hok]⟩⟩
  have HREST := hid hrest
  have hie : (er != er) = false := by simp
  have hii : (ix != ix) = false := by simp
  clear hp hrest
  go_wp2_with fail
  refine (HRN.out).mono ?_
  intro e9 w3 h9
  obtain ⟨hb3, p2, rfl, hcs, hfin⟩ := HREST.out _ _ h9
  have HB3 := hid (bthen HB2.out hb3)
  have HB13 := hid (bthen HB12.out hb3)
  have HFIN := hid hfin
  have HCS := hid hcs
  clear hb3 h9 hcs hfin HRN HREST
  have HLF3 := hid (show ∀ hp : 0 < xs.length, Lft w3 gv ys 0 from fun hp => ⟨fun i hi hk j hj => keepC HB13.out ((HLF1.out hp).cell i hi hk j hj), fun i hi hk => ((HLF1.out hp).byt i hi hk).below' HB13.out⟩)
  clear HLF1
  go_wp2_with fail
  go_loopw [12] (fun i wr => ∃ k : Nat, k ≤ xs.length ∧ i = .int .i64 k ∧ Sp w.heap.size w1.heap.size w3 wr ∧ Below w.heap.size w wr ∧ (0 < xs.length → Lft wr gv ys k)) (fun i _ => xs.length - (intOf i).toNat)
  case atStart => exact ⟨0, Nat.zero_le _, rfl, Sp.refl _ _ _, HB3.out, HLF3.out⟩
  case round =>
    obtain ⟨k, hk, rfl, hsp, hbw, hlf⟩ := hrel
    have HSP := hid hsp
    have HBW := hid hbw
    have HLF := hid hlf
    clear hsp hbw hlf HLF3
    by_cases hlt : k < xs.length
    · have d1 : decide ((k : Int) < (xs.length : Int)) = true := by simp; omega
      have d1n : decide (k < xs.length) = true := by simp; omega
      obtain ⟨rfl, hg1, hg2, hgo, hgf⟩ := HGV.out (by omega)
      have HG1 := hid hg1
      have HG2 := hid hg2
      have HGO := hid hgo
      have HGF := hid hgf
      have hky : k < ys.length := by rw [HLN.out]; exact hlt
      have HKY := hid hky
      have hcl := (HLF.out (by omega)).cell k hky (Nat.le_refl _)
      have hby := (HLF.out (by omega)).byt k hky (Nat.le_refl _)
      have htw := HTW.out k hky hlt
      have hobk := HOB.out ys[k] (List.getElem_mem hky)
      have hlok := HLO.out ys[k] (List.getElem_mem hky)
      have hfrk := HFR.out ys[k] (List.getElem_mem hky)
      have hapk := fun i (hi : i < ys.length) (h : k + 1 ≤ i) b b' (h1 : ys[i].a = some b) (h2 : ys[k].a = some b') => HAP.out i k hi hky (by omega) b b' h1 h2
      obtain ⟨xb, xo, e9, hcell⟩ := (HX.out.below HBW.out).rows.some_of (by simp; omega)
      have g := fun j hj => hcell k (by simpa using hlt) j hj
      have e8 : (xs.map EN.cs)[k]'(by simpa using hlt) = xs[k].cs := by simp
      rw [e8] at g
      have HOX := hid ((HX.out.ok _ (List.getElem_mem hlt)).below HBW.out)
      generalize hyk : ys[k] = y at *
      generalize xs[k] = x at *
      subst e9
      rw [htw] at hcl hby
      obtain ⟨ya, hya⟩ : ∃ ya, ya = y.a := ⟨_, rfl⟩
      obtain ⟨yc, hyc⟩ : ∃ yc, yc = y.c := ⟨_, rfl⟩
      rw [← hya, ← hyc] at hcl hby
      rw [← hya] at hobk hlok hfrk hapk
      have HCL := hid hcl
      have HBY := hid hby
      have HOBK := hid hobk
      have HLOK := hid hlok
      have HFRK := hid hfrk
      have HGK := hid (show ∀ b, ya = some b → b.block ≠ gv from fun b e => hgf y (by rw [← hyk]; exact List.getElem_mem hky) b (by rw [← hya]; exact e))
      have HAPK := hid hapk
      have g0 := g 0 (by simp [EN.cs])
      have g1 := g 1 (by simp [EN.cs])
      have g2 := g 2 (by simp [EN.cs])
      have g3 := g 3 (by simp [EN.cs])
      have g4 := g 4 (by simp [EN.cs])
      have g5 := g 5 (by simp [EN.cs])
      have g6 := g 6 (by simp [EN.cs])
      simp only [EN.cs, List.getElem_cons_zero, List.getElem_cons_succ, Nat.add_zero] at g0 g1 g2 g3 g4 g5 g6
      obtain ⟨⟨y0, y1, y2, y3⟩, y4, y5, y6⟩ := seven_at hcl
      have ec := hid (fun (d : Nat) (os : Array Obj) => show Calls Try.prog 16 #[.slice ya x.data.length yc, .slice x.a x.data.length x.c] (rg wr d os) (fun e w'' => e = .returned (.bool true) ∧ ∃ p : Regrown, w'' = rg wr p.d p.os) from by
        have := eqBytes_any ya x.a x.data.length yc x.data.length x.c x.data x.data (rg wr d os) (byt_rg HBY.out d os) (byt_rg HOX.out.byt d os) (by have := HOX.out.data; omega) (by have := HOX.out.data; omega)
        rw [eqB_me] at this
        exact rg_drew this)
      have hq1 := ba_beq2 x.path x.path
      have hq2 := ba_beq2 x.to x.to
      have hdl := HOX.out.data
      have HC7 := hid hcl
      have s0 := rg_cell g0
      have s1 := rg_cell g1
      have s2 := rg_cell g2
      have s3 := rg_cell g3
      have s4 := rg_cell g4
      have s5 := rg_cell g5
      have s6 := rg_cell g6
      have t0 := rg_cell y0
      have t1 := rg_cell y1
      have t2 := rg_cell y2
      have t3 := rg_cell y3
      have t4 := rg_cell y4
      have t5 := rg_cell y5
      have t6 := rg_cell y6
      have hbl1 : ∀ d os, xb < (rg wr d os).heap.size := fun d os => World.block_lt_of_cell? _ _ (s0 d os)
      have hbl2 : ∀ d os, gv < (rg wr d os).heap.size := fun d os => World.block_lt_of_cell? _ _ (t0 d os)
      clear hcell g e8 hcl hby htw hobk hlok hfrk hapk hgo hgf hya hyc hg1 hg2 hky hyk g0 g1 g2 g3 g4 g5 g6 y0 y1 y2 y3 y4 y5 y6
      go_wp2_with fail
      refine region_rg (by kernel_rfl) (by kernel_rfl) ?_
      repeat (first | go_big_quiet_skip | go_big_quiet_step (with_reducible exact ec.out _ _) | quiet_step (with_reducible exact ec.out _ _))
      refine wpQuiet_nil ?_
      intro _ hw'
      obtain ⟨⟨dq, osq⟩, hw''⟩ := hw'
      subst hw''
      have HB5 := hid (rg_below wr dq osq)
      clear s0 s1 s2 s3 s4 s5 s6 t0 t1 t2 t3 t4 t5 t6 ec hbl1 hbl2 hq1 hq2
      generalize rg wr dq osq = W5 at *
      have HSP5 := hid (HSP.out.below HB5.out)
      have HBW5 := hid (bthen HBW.out HB5.out)
      have HL5 := hid (show Lft W5 gv ys (k + 1) from by
        have h := (HLF.out (by omega)).below HB5.out
        exact ⟨fun i hi h1 => h.cell i hi (by omega), fun i hi h1 => h.byt i hi (by omega)⟩)
      have HC75 := hid (fun j (hj : j < 7) => keepC HB5.out (HC7.out j hj))
      have HD5 := hid (show ∀ j (hj : j < x.data.length), 0 ≤ j → ∃ b off, ya = some ⟨b, off, none⟩ ∧ W5.cell? ⟨b, off + j, none⟩ = some (.int .u8 (x.data[j].toNat : Int)) from fun j hj _ => by
        obtain ⟨b, off, e, h⟩ := HBY.out.cell j hj
        exact ⟨b, off, e, keepC HB5.out h⟩)
      have HGOB := hid (show ∀ wz, Sp w.heap.size w1.heap.size w3 wz → ∃ cs, wz.heap[gv]? = some (Obj.cells cs 77 (0, 0)) from fun wz hs => by
        obtain ⟨cs, h⟩ := HGO.out
        exact hs.rows gv cs _ (by rw [HB13.out.block gv HG2.out]; exact h))
      have HGO3 := hid (show ∃ cs, w3.heap[gv]? = some (Obj.cells cs 77 (0, 0)) ∨ w3.heap[gv]? = some (Obj.cells cs 5 (0, 0)) from by
        obtain ⟨cs, h⟩ := HGO.out
        exact ⟨cs, .inl (by rw [HB13.out.block gv HG2.out]; exact h)⟩)
      obtain ⟨y0, y1, y2, y3, y4, y5, y6⟩ := (show W5.cell? ⟨gv, k * 7, none⟩ = some (.string (ba x.path)) ∧ W5.cell? ⟨gv, k * 7 + 1, none⟩ = some (.int .u8 x.kind) ∧ W5.cell? ⟨gv, k * 7 + 2, none⟩ = some (.int .u16 x.mode) ∧ W5.cell? ⟨gv, k * 7 + 3, none⟩ = some (.int .u32 x.uid) ∧ W5.cell? ⟨gv, k * 7 + 4, none⟩ = some (.int .u32 x.gid) ∧ W5.cell? ⟨gv, k * 7 + 5, none⟩ = some (.slice ya x.data.length yc) ∧ W5.cell? ⟨gv, k * 7 + 6, none⟩ = some (.string (ba x.to)) from ⟨HC75.out 0 (by omega), HC75.out 1 (by omega), HC75.out 2 (by omega), HC75.out 3 (by omega), HC75.out 4 (by omega), HC75.out 5 (by omega), HC75.out 6 (by omega)⟩)
      clear y0 y1 y2 y3 y4 y6 HLF HSP HBW HC7 HBY
      go_wp2_with fail
      rename World => wA
      go_loopw [13] (fun s13 wq => ∃ q : Nat, q ≤ x.data.length ∧ s13 = .int .i64 q ∧ Sp w.heap.size w1.heap.size w3 wq ∧ Below w.heap.size w wq ∧ (∀ j (hj : j < 7), wq.cell? ⟨gv, k * 7 + j, none⟩ = some (({ x with a := ya, c := yc } : EN).cs[j]'hj)) ∧ (∀ j (hj : j < x.data.length), q ≤ j → ∃ b off, ya = some ⟨b, off, none⟩ ∧ wq.cell? ⟨b, off + j, none⟩ = some (.int .u8 (x.data[j].toNat : Int))) ∧ Lft wq gv ys (k + 1)) (fun s13 _ => x.data.length - (intOf s13).toNat)
      case atStart => exact ⟨0, Nat.zero_le _, rfl, HSP5.out, HBW5.out, HC75.out, HD5.out, HL5.out⟩
      case round =>
        obtain ⟨q, hq, rfl, hsp, hbw, hc7, hdat, hlf⟩ := hrel
        have HSPq := hid hsp
        have HBWq := hid hbw
        have HC7q := hid hc7
        have HDq := hid hdat
        have HLq := hid hlf
        obtain ⟨⟨y0, y1, y2, y3⟩, y4, y5, y6⟩ := seven_at hc7
        have hbl2 := World.block_lt_of_cell? _ _ y5
        dsimp only at hbl2
        clear hsp hbw hc7 hdat hlf HSP5 HBW5 HL5 HC75 HD5
        by_cases hql : q < x.data.length
        · as_aux_lemma =>
            have e1 : decide ((q : Int) < (x.data.length : Int)) = true := by simp; omega
            have e1n : decide (q < x.data.length) = true := by simp; omega
            obtain ⟨db, doff, rfl, hbyte⟩ := HDq.out q hql (Nat.le_refl _)
            have hdl1 := HLOK.out _ rfl
            have hdl2 := (HFRK.out _ rfl).1
            have hdg : db ≠ gv := HGK.out _ rfl
            obtain ⟨ocs, hoc⟩ := HOBK.out _ rfl
            have hoc3 : w3.heap[db]? = some (Obj.cells ocs 5 (0, 0)) := by rw [HB13.out.block db hdl2]; exact hoc
            obtain ⟨ocs', hocq⟩ := HSPq.out.rows db ocs _ hoc3
            have hfz : wr.frozen? ⟨db, doff + q, none⟩ = false := frozen_of_row _ _ _ _ _ hocq
            have hdbl := World.block_lt_of_cell? _ _ hbyte
            dsimp only at hdbl
            have HS9 := hid (fun (wz : World) (u : Value) (hz : Sp w.heap.size w1.heap.size w3 wz) => hz.set (o := doff + q) hdl1 hdl2 ⟨ocs, .inr hoc3⟩ u)
            have HDG := hid hdg
            have HDL1 := hid hdl1
            have hap := HAPK.out
            have HAP9 := hid (fun i (hi : i < ys.length) (h : k + 1 ≤ i) b (h1 : ys[i].a = some b) => hap i hi h b _ h1 rfl)
            clear hap hdl1 hdl2 hdg hoc hoc3 hocq y0 y1 y2 y3 y4 y6
            generalize hxq : x.data[q] = xq at *
            clear hxq
            go_wp2_with fail
            go_still_tail 16, (by kernel_rfl)
            go_wp2_with fail
            go_roundw
            case rel =>
              refine ⟨q + 1, by omega, by go_num, (HS9.out _ _ HSPq.out).drew, ?_, fun j hj => ?_, fun j hj hqj => ?_, ?_⟩
              · exact (bset HBWq.out HDL1.out _).drew
              · show World.cell? (World.setCell wr ⟨db, doff + q, none⟩ _) ⟨gv, k * 7 + j, none⟩ = _
                rw [World.cell?_setCell_other _ _ _ _ (by simp only [ne_eq, Addr.mk.injEq, and_true]; have := HDG.out; omega)]
                exact HC7q.out j hj
              · obtain ⟨b, off, e, h⟩ := HDq.out j hj (by omega)
                cases e
                refine ⟨db, doff, rfl, ?_⟩
                show World.cell? (World.setCell wr ⟨db, doff + q, none⟩ _) ⟨db, doff + j, none⟩ = _
                rw [World.cell?_setCell_other _ _ _ _ (by simp only [ne_eq, Addr.mk.injEq, and_true, true_and]; omega)]
                exact h
              · exact (Lft.setD (w := wr) HLq.out HDG.out HAP9.out _).drewN 1
            case measure => simp [intOf]; omega
        · as_aux_lemma =>
            have e1 : decide ((q : Int) < (x.data.length : Int)) = false := by simp; omega
            have e1n : decide (q < x.data.length) = false := by simp; omega
            obtain ⟨gcs, hgq⟩ := HGOB.out _ HSPq.out
            have f0 : wr.frozen? ⟨gv, k * 7, none⟩ = false := frozen_of_row _ _ _ _ _ hgq
            have f1 : wr.frozen? ⟨gv, k * 7 + 1, none⟩ = false := frozen_of_row _ _ _ _ _ hgq
            have f2 : wr.frozen? ⟨gv, k * 7 + 2, none⟩ = false := frozen_of_row _ _ _ _ _ hgq
            have f3 : wr.frozen? ⟨gv, k * 7 + 3, none⟩ = false := frozen_of_row _ _ _ _ _ hgq
            have f4 : wr.frozen? ⟨gv, k * 7 + 4, none⟩ = false := frozen_of_row _ _ _ _ _ hgq
            have f5 : wr.frozen? ⟨gv, k * 7 + 5, none⟩ = false := frozen_of_row _ _ _ _ _ hgq
            have f6 : wr.frozen? ⟨gv, k * 7 + 6, none⟩ = false := frozen_of_row _ _ _ _ _ hgq
            have HGF9 := hid HGF.out
            clear hgq
            go_wp2_with fail
            go_roundw
            case rel =>
              refine ⟨k + 1, by omega, by go_num, ?_, ?_, fun _ => ?_⟩
              · have S := fun {wz : World} (h : Sp w.heap.size w1.heap.size w3 wz) (o : Nat) (u : Value) => Sp.set (g := gv) (o := o) h HG1.out HG2.out HGO3.out u
                exact S (S (S (S (S (S (S HSPq.out _ _) _ _) _ _) _ _) _ _) _ _) _ _
              · have S := fun {wz : World} (h : Below w.heap.size w wz) (o : Nat) (u : Value) => bset (b := gv) (o := o) h HG1.out u
                exact S (S (S (S (S (S (S HBWq.out _ _) _ _) _ _) _ _) _ _) _ _) _ _
              · have S := fun {wz : World} (h : Lft wz gv ys (k + 1)) (o : Nat) (ho : o < (k + 1) * 7) (u : Value) => Lft.set (gv := gv) (o := o) h ho HGF9.out u
                exact S (S (S (S (S (S (S HLq.out _ (by omega) _) _ (by omega) _) _ (by omega) _) _ (by omega) _) _ (by omega) _) _ (by omega) _) _ (by omega) _
            case measure => simp [intOf]; omega
    · as_aux_lemma =>
        have d1 : decide ((k : Int) < (xs.length : Int)) = false := by simp; omega
        have d1n : decide (k < xs.length) = false := by simp; omega
        rcases HCS.out with ⟨F, G, rfl, rfl⟩ | ⟨rfl, rfl⟩
        · go_wp2_with fail
          refine bodyPost_ret (v := .tuple #[.pointer (some ⟨F, 0, none⟩), .pointer (some ⟨G, 0, none⟩), .bool true]) (by simp [results, Try.f11, go_sem]) rfl (HFIN.out _ HSP.out HBW.out)
        · go_wp2_with fail
          refine bodyPost_ret (v := .tuple #[.pointer none, .pointer none, .bool true]) (by simp [results, Try.f11, go_sem]) rfl (HFIN.out _ HSP.out HBW.out)
end Go.Proofs.Ytnepccjcjkeneaa
