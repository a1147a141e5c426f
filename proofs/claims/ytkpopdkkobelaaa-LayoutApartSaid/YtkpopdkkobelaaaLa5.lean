
/- layout.mapped. -/
import Derived.Test.YtkpopdkkobelaaaLa4
import Derived.Laws.MakeOwn
import Derived.Deep.RegionHeld3
import Derived.Deep.AppendLies
import Derived.IntWalk
namespace Go.Proofs.Ytkpopdkkobelaaa
open Go.RowKit Go.Sort Go.Shelf
attribute [local go_sem] Oper.semAt_some

theorem infoPc : (Try.prog.info? 49).map (fun i => (i.zero, i.size, i.bytes)) = some (some (.agg #[.int .u64 0, .int .u64 0, .int .u8 0, .int .i64 0, .int .u64 0]), 5, 40) := by kernel_rfl
theorem infoWr : (Try.prog.info? 52).map (fun i => (i.zero, i.size, i.bytes)) = some (some (.agg #[.int .u64 0, .slice none 0 0]), 2, 32) := by kernel_rfl
theorem infoBy : (Try.prog.info? 5).map (fun i => (i.zero, i.size, i.bytes)) = some (some (.int .u8 0), 1, 1) := by kernel_rfl
structure WB where
  addr : Int
  a : Option Addr
  n : Nat
  c : Nat
deriving Inhabited
def wbC (x : WB) : List Value := [.int .u64 x.addr, .slice x.a x.n x.c]
def nought (n : Nat) : List Value := List.replicate n (.int .u8 0)
/-- Bytes that are noughts, in a row of their own. -/
def Nought (w : World) (x : WB) : Prop := ∃ g, x.a = some ⟨g, 0, none⟩ ∧ x.n = x.c ∧ Row w g 5 (nought x.n)
def wbL (ws : List WB) : List (Int × Nat) := ws.map fun x => (x.addr, x.n)
theorem wbC_len (l : List WB) : ∀ r ∈ l.map wbC, r.length = 2 := by
  intro r hr
  obtain ⟨x, _, rfl⟩ := List.mem_map.1 hr
  rfl
theorem wbC_one (l : List WB) : ∀ r ∈ l.map wbC, ∀ u ∈ r, u.oneCell' = true := by
  intro r hr u hu
  obtain ⟨x, _, rfl⟩ := List.mem_map.1 hr
  simp only [wbC, List.mem_cons, List.not_mem_nil, or_false] at hu
  rcases hu with rfl | rfl <;> rfl
theorem pcC_len (l : List PC) : ∀ r ∈ l.map pcC, r.length = 5 := by
  intro r hr
  obtain ⟨x, _, rfl⟩ := List.mem_map.1 hr
  rfl
theorem pcC_one (l : List PC) : ∀ r ∈ l.map pcC, ∀ u ∈ r, u.oneCell' = true := by
  intro r hr u hu
  obtain ⟨x, _, rfl⟩ := List.mem_map.1 hr
  simp only [pcC, List.mem_cons, List.not_mem_nil, or_false] at hu
  rcases hu with rfl | rfl | rfl | rfl | rfl <;> rfl
abbrev OwnP (w : World) (base : Nat) (v : Value) (l : List PC) : Prop := OwnK w base 49 5 v (l.map pcC)
def WrOwn (w : World) (base : Nat) (v : Value) (L : List (Int × Nat)) : Prop := ∃ ws, wbL ws = L ∧ OwnK w base 52 2 v (ws.map wbC) ∧ ∀ x ∈ ws, Nought w x
theorem ownP_nil (w : World) (base : Nat) : OwnP w base (.slice none 0 0) [] := ⟨rfl, .inl ⟨rfl, rfl⟩⟩
theorem wrOwn_nil (w : World) (base : Nat) : WrOwn w base (.slice none 0 0) [] := ⟨[], rfl, ⟨rfl, .inl ⟨rfl, rfl⟩⟩, fun x h => by cases h⟩
theorem mk_nought (n : Nat) (hn : n ≤ 4096) (w : World) : (Instr.makeSlice 50 (.int .u64 (n : Int)) (.int .u64 (n : Int))).run Try.prog w = .ok (.slice (some ⟨w.heap.size, 0, none⟩) n n) (w.alloc (.cells (nought n).toArray 5)) := by
  obtain ⟨i0, hi, hz0, hz1, hz2⟩ := info_parts infoBy
  have := run_make (P := Try.prog) w 50 5 i0 (.int .u8 0) Try.underlying50 hi hz0 .u64 .u64 (n : Int) (n : Int) (by omega) (by omega) (by rw [hz2]; omega) (by omega)
  rw [this, hz1]
  simp only [Int.toNat_natCast, Nat.mul_one]
  rw [show (Value.int .u8 0).cells = #[.int .u8 0] from rfl]
  congr 3
  unfold nought
  apply Array.ext
  · simp [madeCells]
  · intro i h1 h2
    have e : i % 1 = 0 := Nat.mod_one i
    simp [madeCells, e]

theorem own_type {w : World} {base E k n : Nat} {v : Value} {xs : List Value} {b : Nat} (h : w.ownsRow base E k v n xs) (hb : v.ownBlock = some b) : ∃ cs, w.heap[b]? = some (.cells cs E) := by
  rcases h.2 with ⟨rfl, _⟩ | ⟨g, cap, cur, rfl, _, hg, _⟩
  · cases hb
  · simp only [Value.ownBlock, Option.some.injEq] at hb
    subst hb
    exact ⟨cur, hg⟩
theorem own_other {w w' : World} {base base' E E' k k' n n' : Nat} {v v' : Value} {xs xs' : List Value} (h : w.ownsRow base E k v n xs) (h' : w.ownsRow base' E' k' v' n' xs') (hg : w.grownBy w' v'.ownBlock) (hE : E ≠ E') : w'.ownsRow base E k v n xs := by
  refine ⟨h.1, ?_⟩
  rcases h.2 with hn | ⟨g, cap, cur, hv, hbg, hh, r⟩
  · exact .inl hn
  · refine .inr ⟨g, cap, cur, hv, hbg, ?_, r⟩
    rw [hg.block g (Array.getElem?_eq_some_iff.1 hh).1 (fun e => by
      obtain ⟨cs, hc⟩ := own_type h' e.symm
      rw [hh] at hc
      cases hc
      exact hE rfl)]
    exact hh
theorem row_other {w w' : World} {base' g E E' k' n' : Nat} {cs : List Value} {v' : Value} {xs' : List Value} (h : Row w g E cs) (h' : w.ownsRow base' E' k' v' n' xs') (hg : w.grownBy w' v'.ownBlock) (hE : E ≠ E') : Row w' g E cs :=
  h.grown hg (fun e => by
    obtain ⟨cs', hc⟩ := own_type h' e.symm
    rw [h.heap] at hc
    cases hc
    exact hE rfl)
theorem Nought.below {w w' : World} {x : WB} (h : Nought w x) (hb : Below w.heap.size w w') : Nought w' x := by
  obtain ⟨g, h1, h2, h3⟩ := h
  exact ⟨g, h1, h2, h3.below hb h3.lt⟩
theorem WrOwn.below {w w' : World} {base : Nat} {v : Value} {L : List (Int × Nat)} (h : WrOwn w base v L) (hb : Below w.heap.size w w') : WrOwn w' base v L := by
  obtain ⟨ws, h1, h2, h3⟩ := h
  exact ⟨ws, h1, own_below h2 hb, fun x hx => (h3 x hx).below hb⟩
theorem WrOwn.other {w w' : World} {base base' k' n' : Nat} {v v' : Value} {xs' : List Value} {L : List (Int × Nat)} (h : WrOwn w base v L) (h' : w.ownsRow base' 49 k' v' n' xs') (hg : w.grownBy w' v'.ownBlock) : WrOwn w' base v L := by
  obtain ⟨ws, h1, h2, h3⟩ := h
  refine ⟨ws, h1, own_other h2 h' hg (by decide), fun x hx => ?_⟩
  obtain ⟨g, k1, k2, k3⟩ := h3 x hx
  exact ⟨g, k1, k2, row_other k3 h' hg (by decide)⟩
theorem wrOwn_one {w : World} {base g n : Nat} {F : Int} {v : Value} (h : OwnK w base 52 2 v ([] ++ [wbC ⟨F, some ⟨g, 0, none⟩, n, n⟩])) (hr : Row w g 5 (nought n)) : WrOwn w base v [(F, n)] :=
  ⟨[⟨F, some ⟨g, 0, none⟩, n, n⟩], rfl, h, fun x hx => by
    rw [List.mem_singleton.1 hx]
    exact ⟨g, rfl, rfl, hr⟩⟩
theorem grown_nil {B : Nat} {a w w' : World} (h : Below B a w) (hg : w.grownBy w' (Value.slice none 0 0).ownBlock) (hB : B ≤ w.heap.size) : Below B a w' := h.grown hg hB (fun k e => by cases e)

/-- What is asked of a load, beside the object's base. -/
structure MpOk (base : Int) (s : SG) : Prop where
  ok : SGok s
  b0 : 0 ≤ base
  m0 : 0 < s.msz
  fm : s.fsz ≤ s.msz
  end' : base + s.addr + s.msz ≤ 140737488355328

def MapPost (w : World) (base ino : Int) (s : SG) (e : Ending) (w' : World) : Prop := ∃ vp vw, e = .returned (.tuple #[vp, vw]) ∧ OwnP w' w.heap.size vp (pcs1 base ino s) ∧ WrOwn w' w.heap.size vw (wrs1 base s) ∧ Below w.heap.size w w'

set_option maxRecDepth 100000 in
set_option maxHeartbeats 8000000 in
theorem mapped_any (x : LO) (s : SG) (w : World) (hs : MpOk x.base s) :
    Calls Try.prog 38 #[loV x, sgV s] w (MapPost w x.base x.ino s) := by
  obtain ⟨ino, base, typ, entry, phoff, ga, gn, gc, sg, na, nn, nc, soname, run, sa, sn, sc, ra, rn, rc⟩ := x
  dsimp only at hs ⊢
  have ho := hs.ok
  have hb0 := hs.b0
  have hm0 := hs.m0
  have hfm := hs.fm
  have hend := hs.end'
  have a0 := ho.a0; have a1 := ho.a1; have z0 := ho.z0; have o0 := ho.o0; have o1 := ho.o1
  obtain ⟨A, hA⟩ : ∃ A, base + s.addr = A := ⟨_, rfl⟩
  obtain ⟨F, hF⟩ : ∃ F, A + s.fsz = F := ⟨_, rfl⟩
  obtain ⟨E, hE⟩ : ∃ E, A + s.msz = E := ⟨_, rfl⟩
  have w1 : IntKind.u64.wrap (base + s.addr) = A := by rw [IntKind.wrap_u64]; omega
  have w2 : IntKind.u64.wrap (A + s.fsz) = F := by rw [IntKind.wrap_u64]; omega
  have w3 : IntKind.u64.wrap (A + s.msz) = E := by rw [IntKind.wrap_u64]; omega
  have HDA := hid (fun wx => show Calls Try.prog 43 #[.int .u64 A] wx (fun e w' => e = .returned (.int .u64 (dn A)) ∧ wx = w') from down_any A wx (by omega) (by omega))
  have HDO := hid (fun wx => show Calls Try.prog 43 #[.int .u64 s.off] wx (fun e w' => e = .returned (.int .u64 (dn s.off)) ∧ wx = w') from down_any s.off wx (by omega) (by omega))
  have HUE := hid (fun wx => show Calls Try.prog 41 #[.int .u64 E] wx (fun e w' => e = .returned (.tuple #[.int .u64 (upI E), .bool (upB E)]) ∧ wx = w') from by
    have := up_any E wx (by omega) (by omega)
    rwa [upV_in (by omega) (by omega)] at this)
  have HUF := hid (fun wx => show Calls Try.prog 41 #[.int .u64 F] wx (fun e w' => e = .returned (.tuple #[.int .u64 (upI F), .bool (upB F)]) ∧ wx = w') from by
    have := up_any F wx (by omega) (by omega)
    rwa [upV_in (by omega) (by omega)] at this)
  have HP : Hid (pcs1 base ino s = (if 0 < s.fsz then [⟨dn A, upI F, s.flags, ino, dn s.off⟩] else []) ++ (if (if 0 < s.fsz then upI F else dn A) < upI E then [⟨(if 0 < s.fsz then upI F else dn A), upI E, s.flags, -1, 0⟩] else [])) := hid (by
    unfold pcs1 pcsA pcsB fromB
    rw [hA, hF, hE])
  have HWR : Hid (wrs1 base s = if 0 < s.fsz ∧ s.fsz < s.msz ∧ ¬ F % 4096 = 0 then [(F, (upI F - F).toNat)] else []) := hid (by
    unfold wrs1
    rw [hA, hF])
  have hDE : dn A < upI E := by unfold upI dn; omega
  have hUF : upI F - F < 4096 ∧ 0 ≤ upI F - F ∧ (F < upI F ↔ ¬ F % 4096 = 0) := by unfold upI dn; omega
  have hUF0 : 0 ≤ upI F ∧ upI F ≤ 18446744073709551615 := by unfold upI dn; omega
  generalize upB E = q1 at *
  generalize upB F = q2 at *
  generalize dn A = D at *
  generalize dn s.off = DO at *
  generalize upI E = UE at *
  generalize upI F = UF at *
  clear hs ho
  unfold loV sgV
  dsimp only
  obtain ⟨W0, hW0⟩ : ∃ W0, W0 = (w.alloc (.cells #[.int .i64 ino, .int .u64 base, .int .u16 typ, .int .u64 entry, .int .u64 phoff, Value.slice ga gn gc, .slice na nn nc, .string (ba soname), .string (ba run), .slice sa sn sc, .slice ra rn rc] 33)).alloc (.cells #[.int .u32 s.kind, .int .u8 s.flags, .int .u64 s.off, .int .u64 s.addr, .int .u64 s.fsz, .int .u64 s.msz] 58) := ⟨_, rfl⟩
  have HB0 := hid (show Below w.heap.size w W0 by rw [hW0]; exact (bal _).alloc (by simp) _)
  have HX := hid (show Row W0 w.heap.size 33 [_, _, _, _, _, _, _, _, _, _, _] by rw [hW0]; exact (Row.new w 33 [.int .i64 ino, .int .u64 base, .int .u16 typ, .int .u64 entry, .int .u64 phoff, Value.slice ga gn gc, .slice na nn nc, .string (ba soname), .string (ba run), .slice sa sn sc, .slice ra rn rc]).alloc _)
  have HS := hid (show Row W0 (w.heap.size + 1) 58 [_, _, _, _, _, _] by
    rw [hW0]
    have := Row.new (w.alloc (.cells #[.int .i64 ino, .int .u64 base, .int .u16 typ, .int .u64 entry, .int .u64 phoff, Value.slice ga gn gc, .slice na nn nc, .string (ba soname), .string (ba run), .slice sa sn sc, .slice ra rn rc] 33)) 58 [.int .u32 s.kind, .int .u8 s.flags, .int .u64 s.off, .int .u64 s.addr, .int .u64 s.fsz, .int .u64 s.msz]
    rw [World.size_alloc] at this
    exact this)
  obtain ⟨⟨x0, x1, x2, x3, x4, x5⟩, x6, x7, x8, x9, x10⟩ := HX.out.eleven
  obtain ⟨y0, y1, y2, y3, y4, y5⟩ := HS.out.six
  have hl1 := HX.out.lt
  have hl2 := HS.out.lt
  go_enter Try.func38, Try.ntmps38
  go_wp2_with fail
  try rw [← hW0]
  clear hW0
  go_wp2_with fail
  refine (HDA.out _).mono ?_
  rintro e' w2 ⟨rfl, rfl⟩
  go_wp2_with fail
  refine (HUE.out _).mono ?_
  rintro e' w2 ⟨rfl, rfl⟩
  by_cases hz : 0 < s.fsz
  · have d1 : decide (0 < s.fsz) = true := decide_eq_true hz
    rw [if_pos hz, if_pos hz] at HP
    have HZ := hid hz
    clear hz
    go_wp2_with fail
    refine (HUF.out _).mono ?_
    rintro e' w2 ⟨rfl, rfl⟩
    go_wp2_with fail
    have HOd := hid (fun o => ownP_nil ((W0.alloc o).drew) w.heap.size)
    have HN1 := hid (show ∀ j u, (pcC ⟨D, UF, s.flags, ino, DO⟩)[j]? = some u → ((W0.alloc (.cells #[.int .u64 D, .int .u64 UF, .int .u8 s.flags, .int .i64 ino, .int .u64 DO] 49)).drew).cell? ((Addr.mk W0.heap.size 0 none).add j) = some u from by
      have := (row_rk (Row.drew (Row.new W0 49 (pcC ⟨D, UF, s.flags, ino, DO⟩))) (k := 5) rfl).news (by omega)
      intro j u hj
      exact this j u (by simpa using hj))
    have HON1 := hid (show ∀ u ∈ pcC ⟨D, UF, s.flags, ino, DO⟩, u.oneCell' = true from pcC_one [⟨D, UF, s.flags, ino, DO⟩] _ (by simp))
    have HZd := hid (fun o => show w.heap.size ≤ ((W0.alloc o).drew).heap.size from (HB0.out.alloc HB0.out.size o).size)
    have HBG := hid (fun o w' (hg : ((W0.alloc o).drew).grownBy w' (Value.slice none 0 0).ownBlock) => show Below w.heap.size w w' from grown_nil ((HB0.out.alloc HB0.out.size o).drew) hg (HZd.out o))
    have HSG := hid (fun o w' (hg : ((W0.alloc o).drew).grownBy w' (Value.slice none 0 0).ownBlock) => show Row w' (w.heap.size + 1) 58 [_, _, _, _, _, _] from ((HS.out.alloc o).drew).grown hg (fun e => by cases e))
    obtain ⟨i0, hi0, hz0, hz1, hz2⟩ := info_parts infoPc
    have hHe : ∀ o, ((W0.alloc o).drew).heap.size = W0.heap.size + 1 := fun o => by show (W0.alloc o).heap.size = _; simp
    go_region_held3 (fun w' => w'.cell? ⟨w.heap.size + 1, 1, none⟩ = some (.int .u8 s.flags) ∧ w'.cell? ⟨w.heap.size, 0, none⟩ = some (.int .i64 ino) ∧ w'.cell? ⟨w.heap.size + 1, 2, none⟩ = some (.int .u64 s.off)) (first | go_keep | (go_split_ands; refine ⟨?_, ?_, ?_⟩ <;> exact hgrow.cell (by assumption) (fun e => by cases e))) (first | (go_at_call 43; (with_reducible refine ((HDO.out _).mono ?_)); rintro e' wx ⟨rfl, rfl⟩) | (refine step_append_lies _ (by rfl) _ _ 44 (by rfl) w.heap.size 49 i0 _ 5 40 Try.underlying44 hi0 hz0 hz1 hz2 rfl (by decide) (.slice none 0 0) 0 [] (by rfl) (HOd.out _) ⟨W0.heap.size, 0, none⟩ 1 1 (pcC ⟨D, UF, s.flags, ino, DO⟩) (by rfl) (by rfl) HN1.out HON1.out (by decide) (by decide) (by decide) (HZd.out _) (W0.heap.size + 1) (hHe _) ?_; intro gg cap w1 hown1 hgrow hat hlt; have HO1 := hid hown1; have HB1 := hid (HBG.out _ _ hgrow); have HS1 := hid (HSG.out _ _ hgrow)))
    clear HOd HN1 HON1 HZd HBG HSG HX HS HB0 x0 x1 x2 x3 x4 x5 x6 x7 x8 x9 x10 y0 y1 y2 y3 y4 y5 hl1 hl2
    have HP1 : Hid (OwnP w1 w.heap.size (.slice (some ⟨gg, 0, none⟩) 1 cap) [⟨D, UF, s.flags, ino, DO⟩]) := hid (own_ext HO1.out rfl (by simp))
    obtain ⟨y0, y1, y2, y3, y4, y5⟩ := HS1.out.six
    have hl2 := HS1.out.lt
    obtain ⟨nn, hnn⟩ : ∃ nn : Nat, UF - F = (nn : Int) := ⟨(UF - F).toNat, by omega⟩
    have hsub : IntKind.u64.wrap (UF - F) = (nn : Int) := by rw [hnn, IntKind.wrap_u64]; omega
    have hnt : (UF - F).toNat = nn := by omega
    rw [hnt] at HWR
    have hn4 : nn ≤ 4096 := by omega
    have HUFF := hid hUF
    have HNa := hid (show ([pcC ⟨D, UF, s.flags, ino, DO⟩].length + 1) * 40 ≤ 140737488355328 by simp)
    have HNb := hid (show [pcC ⟨D, UF, s.flags, ino, DO⟩].length + 1 ≤ maxLen by simp [maxLen])
    clear hUF hnn hnt
    by_cases h2 : s.fsz < s.msz
    · have d5 : decide (s.fsz < s.msz) = true := decide_eq_true h2
      by_cases h3 : F < UF
      · have d6 : decide (F < UF) = true := decide_eq_true h3
        rw [if_pos ⟨HZ.out, h2, HUFF.out.2.2.1 h3⟩] at HWR
        clear h2
        have hmk := fun w => mk_nought nn hn4 w
        have HNW := hid (show Rk ((w1.alloc (.cells (nought nn).toArray 5)).alloc (.cells #[.int .u64 F, .slice (some ⟨w1.heap.size, 0, none⟩) nn nn] 52)) 2 (some ⟨w1.heap.size + 1, 0, none⟩) 1 [wbC ⟨F, some ⟨w1.heap.size, 0, none⟩, nn, nn⟩] from by
          have := Row.new (w1.alloc (.cells (nought nn).toArray 5)) 52 (wbC ⟨F, some ⟨w1.heap.size, 0, none⟩, nn, nn⟩)
          rw [World.size_alloc] at this
          exact row_rk this rfl)
        have HNN := hid (show Row ((w1.alloc (.cells (nought nn).toArray 5)).alloc (.cells #[.int .u64 F, .slice (some ⟨w1.heap.size, 0, none⟩) nn nn] 52)) w1.heap.size 5 (nought nn) from (Row.new w1 5 (nought nn)).alloc _)
        have HONW := hid (show OwnK ((w1.alloc (.cells (nought nn).toArray 5)).alloc (.cells #[.int .u64 F, .slice (some ⟨w1.heap.size, 0, none⟩) nn nn] 52)) w.heap.size 52 2 (.slice none 0 0) [] from ⟨rfl, .inl ⟨rfl, rfl⟩⟩)
        have HBW := hid (show Below w.heap.size w ((w1.alloc (.cells (nought nn).toArray 5)).alloc (.cells #[.int .u64 F, .slice (some ⟨w1.heap.size, 0, none⟩) nn nn] 52)) from (HB1.out.alloc HB1.out.size _).alloc (HB1.out.alloc HB1.out.size _).size _)
        have HBW1 := hid (show Below w1.heap.size w1 ((w1.alloc (.cells (nought nn).toArray 5)).alloc (.cells #[.int .u64 F, .slice (some ⟨w1.heap.size, 0, none⟩) nn nn] 52)) from ((Below.refl _ w1).alloc (Nat.le_refl _) _).alloc (by simp) _)
        have HONEW := hid (wbC_one [⟨F, some ⟨w1.heap.size, 0, none⟩, nn, nn⟩])
        have HONE := hid (pcC_one [⟨UF, UE, s.flags, -1, 0⟩])
        have NILNE := hid (fun (e : some w1.heap.size = (Value.slice none 0 0).ownBlock) => show False by cases e)
        by_cases h4 : UF < UE
        · have d4 : decide (UF < UE) = true := decide_eq_true h4
          rw [if_pos h4] at HP
          clear h4
          go_wp2_with (first | (at_builtin; refine wpList_appKg Try.underlying45 infoWr rfl (by decide) rfl _ _ rfl w.heap.size (.slice none 0 0) [] [wbC ⟨F, some ⟨w1.heap.size, 0, none⟩, nn, nn⟩] rfl (some ⟨w1.heap.size + 1, 0, none⟩) 1 1 rfl HONW.out HNW.out HONEW.out (fun h => by cases h) (by decide) (by decide) HBW.out.size ?_; intro vw w2 hown hgrow hb9; have HO2 := hid hown; have HB2 := hid (HBW.out.trans hb9); have HBB2 := hid (grown_nil HBW1.out hgrow HBW1.out.size); have HWO := hid (wrOwn_one hown (HNN.out.grown hgrow NILNE.out)); have HP2 := hid (own_below HP1.out HBB2.out); have HS2 := hid (HS1.out.below HBB2.out HS1.out.lt); obtain ⟨z0, z1, z2, z3, z4, z5⟩ := HS2.out.six; have hl3 := HS2.out.lt; have HOQ := hid (fun o => own_below HP2.out (@bal w2 o)); have HNR := hid (show Rk (w2.alloc (.cells #[.int .u64 UF, .int .u64 UE, .int .u8 s.flags, .int .i64 (-1), .int .u64 0] 49)) 5 (some ⟨w2.heap.size, 0, none⟩) 1 [pcC ⟨UF, UE, s.flags, -1, 0⟩] from row_rk (Row.new w2 49 (pcC ⟨UF, UE, s.flags, -1, 0⟩)) rfl); have HBA := hid (fun o => HB2.out.alloc HB2.out.size o); have HWA := hid (fun o => WrOwn.below HWO.out (@bal w2 o)); clear hown hgrow hb9) | (at_builtin; refine wpList_appKg Try.underlying44 infoPc rfl (by decide) rfl _ _ rfl w.heap.size (.slice (some ⟨gg, 0, none⟩) 1 cap) [pcC ⟨D, UF, s.flags, ino, DO⟩] [pcC ⟨UF, UE, s.flags, -1, 0⟩] rfl (some ⟨w2.heap.size, 0, none⟩) 1 1 rfl (HOQ.out _) HNR.out HONE.out (fun h => by cases h) HNa.out HNb.out (HBA.out _).size ?_; intro v' w9 hown hgrow hb9; have HO9 := hid hown; have HB9 := hid ((HBA.out _).trans hb9); have HWF := hid ((HWA.out _).other (HOQ.out _) hgrow); clear hown hgrow hb9))
          go_ret2
          exact ⟨_, _, rfl, by rw [HP.out]; exact HO9.out, by rw [HWR.out]; exact HWF.out, HB9.out⟩
        · have d4 : decide (UF < UE) = false := decide_eq_false h4
          rw [if_neg h4, List.append_nil] at HP
          clear h4
          go_wp2_with ((at_builtin; refine wpList_appKg Try.underlying45 infoWr rfl (by decide) rfl _ _ rfl w.heap.size (.slice none 0 0) [] [wbC ⟨F, some ⟨w1.heap.size, 0, none⟩, nn, nn⟩] rfl (some ⟨w1.heap.size + 1, 0, none⟩) 1 1 rfl HONW.out HNW.out HONEW.out (fun h => by cases h) (by decide) (by decide) HBW.out.size ?_; intro vw w2 hown hgrow hb9; have HO2 := hid hown; have HB2 := hid (HBW.out.trans hb9); have HBB2 := hid (grown_nil HBW1.out hgrow HBW1.out.size); have HWO := hid (wrOwn_one hown (HNN.out.grown hgrow NILNE.out)); have HP2 := hid (own_below HP1.out HBB2.out); have HS2 := hid (HS1.out.below HBB2.out HS1.out.lt); obtain ⟨z0, z1, z2, z3, z4, z5⟩ := HS2.out.six; have hl3 := HS2.out.lt; have HOQ := hid (fun o => own_below HP2.out (@bal w2 o)); have HNR := hid (show Rk (w2.alloc (.cells #[.int .u64 UF, .int .u64 UE, .int .u8 s.flags, .int .i64 (-1), .int .u64 0] 49)) 5 (some ⟨w2.heap.size, 0, none⟩) 1 [pcC ⟨UF, UE, s.flags, -1, 0⟩] from row_rk (Row.new w2 49 (pcC ⟨UF, UE, s.flags, -1, 0⟩)) rfl); have HBA := hid (fun o => HB2.out.alloc HB2.out.size o); have HWA := hid (fun o => WrOwn.below HWO.out (@bal w2 o)); clear hown hgrow hb9))
          go_ret2
          exact ⟨_, _, rfl, by rw [HP.out]; exact HP2.out, by rw [HWR.out]; exact HWO.out, HB2.out⟩
      · have d6 : decide (F < UF) = false := decide_eq_false h3
        rw [if_neg (fun h => h3 (HUFF.out.2.2.2 h.2.2))] at HWR
        have HWN := hid (wrOwn_nil w1 w.heap.size)
        by_cases h4 : UF < UE
        · have d4 : decide (UF < UE) = true := decide_eq_true h4
          rw [if_pos h4] at HP
          have HOQ := hid (fun o => show OwnP (w1.alloc o) w.heap.size (.slice (some ⟨gg, 0, none⟩) 1 cap) [⟨D, UF, s.flags, ino, DO⟩] from own_below HP1.out (bal o))
          have HNR := hid (show Rk (w1.alloc (.cells #[.int .u64 UF, .int .u64 UE, .int .u8 s.flags, .int .i64 (-1), .int .u64 0] 49)) 5 (some ⟨w1.heap.size, 0, none⟩) 1 [pcC ⟨UF, UE, s.flags, -1, 0⟩] from row_rk (Row.new w1 49 (pcC ⟨UF, UE, s.flags, -1, 0⟩)) rfl)
          have HONE := hid (pcC_one [⟨UF, UE, s.flags, -1, 0⟩])
          have HBA := hid (fun o => show Below w.heap.size w (w1.alloc o) from HB1.out.alloc HB1.out.size o)
          have HWA := hid (fun o => show WrOwn (w1.alloc o) w.heap.size (.slice none 0 0) [] from WrOwn.below HWN.out (bal o))
          clear h4
          go_wp2_with (at_builtin; go_must (refine wpList_appKg Try.underlying44 infoPc rfl (by decide) rfl _ _ rfl w.heap.size (.slice (some ⟨gg, 0, none⟩) 1 cap) [pcC ⟨D, UF, s.flags, ino, DO⟩] [pcC ⟨UF, UE, s.flags, -1, 0⟩] rfl (some ⟨w1.heap.size, 0, none⟩) 1 1 rfl (HOQ.out _) HNR.out HONE.out (fun h => by cases h) HNa.out HNb.out (HBA.out _).size ?_; intro v' w9 hown hgrow hb9; have HO9 := hid hown; have HB9 := hid ((HBA.out _).trans hb9); have HWF := hid ((HWA.out _).other (HOQ.out _) hgrow); clear hown hgrow hb9))
          go_ret2
          exact ⟨_, _, rfl, by rw [HP.out]; exact HO9.out, by rw [HWR.out]; exact HWF.out, HB9.out⟩
        · have d4 : decide (UF < UE) = false := decide_eq_false h4
          rw [if_neg h4, List.append_nil] at HP
          clear h4
          go_wp2_with fail
          go_ret2
          exact ⟨_, _, rfl, by rw [HP.out]; exact HP1.out, by rw [HWR.out]; exact HWN.out, HB1.out⟩
    · have d5 : decide (s.fsz < s.msz) = false := decide_eq_false h2
      rw [if_neg (fun h => h2 h.2.1)] at HWR
      have HWN := hid (wrOwn_nil w1 w.heap.size)
      by_cases h4 : UF < UE
      · have d4 : decide (UF < UE) = true := decide_eq_true h4
        rw [if_pos h4] at HP
        have HOQ := hid (fun o => show OwnP (w1.alloc o) w.heap.size (.slice (some ⟨gg, 0, none⟩) 1 cap) [⟨D, UF, s.flags, ino, DO⟩] from own_below HP1.out (bal o))
        have HNR := hid (show Rk (w1.alloc (.cells #[.int .u64 UF, .int .u64 UE, .int .u8 s.flags, .int .i64 (-1), .int .u64 0] 49)) 5 (some ⟨w1.heap.size, 0, none⟩) 1 [pcC ⟨UF, UE, s.flags, -1, 0⟩] from row_rk (Row.new w1 49 (pcC ⟨UF, UE, s.flags, -1, 0⟩)) rfl)
        have HONE := hid (pcC_one [⟨UF, UE, s.flags, -1, 0⟩])
        have HBA := hid (fun o => show Below w.heap.size w (w1.alloc o) from HB1.out.alloc HB1.out.size o)
        have HWA := hid (fun o => show WrOwn (w1.alloc o) w.heap.size (.slice none 0 0) [] from WrOwn.below HWN.out (bal o))
        clear h4
        go_wp2_with (at_builtin; go_must (refine wpList_appKg Try.underlying44 infoPc rfl (by decide) rfl _ _ rfl w.heap.size (.slice (some ⟨gg, 0, none⟩) 1 cap) [pcC ⟨D, UF, s.flags, ino, DO⟩] [pcC ⟨UF, UE, s.flags, -1, 0⟩] rfl (some ⟨w1.heap.size, 0, none⟩) 1 1 rfl (HOQ.out _) HNR.out HONE.out (fun h => by cases h) HNa.out HNb.out (HBA.out _).size ?_; intro v' w9 hown hgrow hb9; have HO9 := hid hown; have HB9 := hid ((HBA.out _).trans hb9); have HWF := hid ((HWA.out _).other (HOQ.out _) hgrow); clear hown hgrow hb9))
        go_ret2
        exact ⟨_, _, rfl, by rw [HP.out]; exact HO9.out, by rw [HWR.out]; exact HWF.out, HB9.out⟩
      · have d4 : decide (UF < UE) = false := decide_eq_false h4
        rw [if_neg h4, List.append_nil] at HP
        clear h4
        go_wp2_with fail
        go_ret2
        exact ⟨_, _, rfl, by rw [HP.out]; exact HP1.out, by rw [HWR.out]; exact HWN.out, HB1.out⟩
  · have d1 : decide (0 < s.fsz) = false := decide_eq_false hz
    rw [if_neg hz, if_neg hz, if_pos hDE] at HP
    rw [if_neg (fun h => hz h.1)] at HWR
    have d4 : decide (D < UE) = true := decide_eq_true hDE
    have HON := hid (fun o => ownP_nil (W0.alloc o) w.heap.size)
    have HNR := hid (show Rk (W0.alloc (.cells #[.int .u64 D, .int .u64 UE, .int .u8 s.flags, .int .i64 (-1), .int .u64 0] 49)) 5 (some ⟨W0.heap.size, 0, none⟩) 1 [pcC ⟨D, UE, s.flags, -1, 0⟩] from row_rk (Row.new W0 49 (pcC ⟨D, UE, s.flags, -1, 0⟩)) rfl)
    have HONE := hid (pcC_one [⟨D, UE, s.flags, -1, 0⟩])
    have HNZ := hid (fun o => show w.heap.size ≤ (W0.alloc o).heap.size from (HB0.out.alloc HB0.out.size o).size)
    have HBA := hid (fun o => show Below w.heap.size w (W0.alloc o) from HB0.out.alloc HB0.out.size o)
    clear hz
    go_wp2_with (at_builtin; go_must (refine wpList_appKg Try.underlying44 infoPc rfl (by decide) rfl _ _ rfl w.heap.size (.slice none 0 0) [] [pcC ⟨D, UE, s.flags, -1, 0⟩] rfl (some ⟨W0.heap.size, 0, none⟩) 1 1 rfl (HON.out _) HNR.out HONE.out (fun h => by cases h) (by decide) (by decide) (HNZ.out _) ?_; intro v' w9 hown hgrow hb9; have HO9 := hid hown; have HB9 := hid ((HBA.out _).trans hb9); clear hown hgrow hb9))
    go_ret2
    exact ⟨_, _, rfl, by rw [HP.out]; exact HO9.out, by rw [HWR.out]; exact wrOwn_nil _ _, HB9.out⟩
end Go.Proofs.Ytkpopdkkobelaaa
