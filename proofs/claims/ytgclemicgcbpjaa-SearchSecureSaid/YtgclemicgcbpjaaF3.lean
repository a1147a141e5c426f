/- vfs: one step. -/
import Derived.Test.YtgclemicgcbpjaaF2
import Derived.BigQuiet
namespace Go.Proofs.Ytgclemicgcbpjaa
open Go.RowKit Go.Sort

/-- Who goes. -/
structure CR where
  u : Int
  e : Int
  s : Int
  g : Int
  a : Option Addr
  n : Nat
  c : Nat
  l : List Int
def CR.v (c : CR) : Value := .agg #[.int .u32 c.u, .int .u32 c.e, .int .u32 c.s, .int .u32 c.g, .slice c.a c.n c.c]
structure CrOk (w : World) (c : CR) : Prop where
  nums : Nums w .u32 c.a c.n c.l
  most : c.n ≤ 1048576
theorem CrOk.below {w w' : World} {c : CR} (h : CrOk w c) (hb : Below w.heap.size w w') : CrOk w' c := ⟨h.nums.below' hb, h.most⟩
def mayX (c : CR) (x : ND) : Bool := mayB c.e c.g c.l x.kind x.mode x.uid x.gid 1
def lookI (l : List (BL × Nat)) (n : BL) : Option Nat := (l.reverse.find? fun x => decide (x.1 = n)).map (·.2)
theorem lookI_map (f : Nat → Nat × Nat) (l : List (BL × Nat)) (n : BL) : lookN (l.map fun p => (p.1, f p.2)) n = (lookI l n).map f := by
  unfold lookN lookI
  rw [← List.map_reverse, List.find?_map]
  simp only [Option.map_map]
  rfl
theorem lookI_mem {l : List (BL × Nat)} {n : BL} {j : Nat} (h : lookI l n = some j) : (n, j) ∈ l := by
  unfold lookI at h
  obtain ⟨⟨m, j'⟩, h1, rfl⟩ := Option.map_eq_some_iff.1 h
  have h2 := List.find?_some h1
  have h3 := List.mem_of_find?_eq_some h1
  simp only [decide_eq_true_eq] at h2
  subst h2
  simpa using h3
def dotdot : BL := [46, 46]
def stepN (c : CR) (x : ND) (p : BL) : Int × Nat :=
  if x.kind ≠ 2 then (8, 0) else if mayX c x = false then (5, 0) else if p = dotdot then (0, x.up) else
    match lookI x.names p with
    | some j => (0, j)
    | none => (3, 0)
def stepL (L : List ND) (c : CR) (i : Nat) (p : BL) : Int × Nat := stepN c (L.getD i default) p
theorem stepN_1 {c : CR} {x : ND} {p : BL} (h : ¬ x.kind = 2) : stepN c x p = (8, 0) := by unfold stepN; rw [if_pos h]
theorem stepN_2 {c : CR} {x : ND} {p : BL} (h : x.kind = 2) (h2 : mayX c x = false) : stepN c x p = (5, 0) := by unfold stepN; rw [if_neg (by simpa using h), if_pos h2]
theorem stepN_3 {c : CR} {x : ND} {p : BL} (h : x.kind = 2) (h2 : mayX c x = true) (h3 : p = dotdot) : stepN c x p = (0, x.up) := by unfold stepN; rw [if_neg (by simpa using h), if_neg (by rw [h2]; simp), if_pos h3]
theorem stepN_4 {c : CR} {x : ND} {p : BL} (h : x.kind = 2) (h2 : mayX c x = true) (h3 : ¬ p = dotdot) (h4 : lookI x.names p = none) : stepN c x p = (3, 0) := by unfold stepN; rw [if_neg (by simpa using h), if_neg (by rw [h2]; simp), if_neg h3, h4]
theorem stepN_5 {c : CR} {x : ND} {p : BL} {j : Nat} (h : x.kind = 2) (h2 : mayX c x = true) (h3 : ¬ p = dotdot) (h4 : lookI x.names p = some j) : stepN c x p = (0, j) := by unfold stepN; rw [if_neg (by simpa using h), if_neg (by rw [h2]; simp), if_neg h3, h4]
def resV (t : FT) (r : Int × Nat) : Value := .tuple #[if r.1 = 0 then ndV (t.pt r.2) else .nilIface, .int .i64 r.1]

set_option maxRecDepth 100000 in
set_option maxHeartbeats 2000000 in
theorem step_any (F : Nat) (t : FT) (c : CR) (i : Nat) (p : BL) (w : World) (h : FSat w F t) (hi : i < t.L.length) (hc : CrOk w c) (hp : p.length ≤ 1000000) :
    Calls Try.prog 57 #[c.v, ndV (t.pt i), .string (ba p)] w fun e w' => e = .returned (resV t (stepL t.L c i p)) ∧ Below w.heap.size w w' := by
  have HB0 := hid (@bal w)
  have HK := hid (ndV_kind (t.nd i).kind (t.bk i))
  rw [show ndV (t.pt i) = ndV (ndT (t.nd i).kind, t.bk i) from rfl, HK.out]
  have hd := h.node i hi
  have HS := hid (show stepL t.L c i p = stepN c (t.nd i) p from rfl)
  rw [HS.out]
  clear HS
  by_cases h2 : (t.nd i).kind = 2
  · obtain ⟨hr, hm⟩ := hd.dir h2
    rw [if_pos h2]
    have HK2 := hid h2
    have HUP := hid (show ndV (t.pt (t.nd i).up) = .iface 81 (.pointer (some ⟨t.bk (t.nd i).up, 0, none⟩)) by
      have hku : (t.nd (t.nd i).up).kind = 2 := (h.fine.up i hi).2
      rw [show ndV (t.pt (t.nd i).up) = ndV (ndT (t.nd (t.nd i).up).kind, t.bk (t.nd i).up) from rfl, ndV_kind, if_pos hku])
    have hmode := h.fine.mode i hi
    have HMAY := hid (fun (wr : World) (hb : Below w.heap.size w wr) => may_any c.u c.e c.s c.g (t.nd i).kind (t.nd i).mode (t.nd i).uid (t.nd i).gid (t.nd i).size 1 c.a c.n c.c c.l wr (hc.nums.below' hb) hc.most hmode.1 hmode.2)
    have HROW := hid (fun (wr : World) (hb : Below w.heap.size w wr) => hr.below hb hr.lt)
    have HMAP := hid (fun (wr : World) (hb : Below w.heap.size w wr) => (hm.below hb).look p (by unfold maxLen; omega))
    have HLK := hid (lookI_map t.pt (t.nd i).names p)
    have hta := ta_dd (t.bk i)
    have hbox := Row.new w 25 [.int .u32 c.u, .int .u32 c.e, .int .u32 c.s, .int .u32 c.g, .slice c.a c.n c.c]
    have HBX := hid hbox
    clear hr hm hmode h2 hd h hc HK hbox
    unfold CR.v
    go_enter Try.func57, Try.ntmps57
    go_wp2_with fail
    obtain ⟨W1, hW1⟩ : ∃ W1, W1 = w.alloc (.cells #[.int .u32 c.u, .int .u32 c.e, .int .u32 c.s, .int .u32 c.g, .slice c.a c.n c.c] 25) := ⟨_, rfl⟩
    have HW1 := hid (show Below w.heap.size w W1 by rw [hW1]; exact HB0.out _)
    rw [show w.alloc (.cells [.int .u32 c.u, .int .u32 c.e, .int .u32 c.s, .int .u32 c.g, .slice c.a c.n c.c].toArray 25) = W1 from hW1.symm] at HBX
    rw [← hW1]
    clear hW1
    obtain ⟨q0, q1, q2, q3, q4⟩ := five_rg HBX.out.five
    obtain ⟨⟨k0, k1, k2, k3, k4⟩, k5, k6, k7, k8⟩ := hd_cells (HROW.out W1 HW1.out)
    replace k0 := rg_cell k0
    replace k1 := rg_cell k1
    replace k2 := rg_cell k2
    replace k3 := rg_cell k3
    replace k4 := rg_cell k4
    replace k5 := rg_cell k5
    replace k6 := rg_cell k6
    replace k7 := rg_cell k7
    replace k8 := rg_cell k8
    have cc := hid (fun (d : Nat) (os : Array Obj) => rg_call (HMAY.out (rg W1 d os) (bthen HW1.out (rg_below _ _ _))))
    have hbl : ∀ d os, t.bk i < (rg W1 d os).heap.size := fun d os => World.block_lt_of_cell? _ _ (k0 d os)
    rw [show mayB c.e c.g c.l (t.nd i).kind (t.nd i).mode (t.nd i).uid (t.nd i).gid 1 = mayX c (t.nd i) from rfl] at cc
    cases hmx : mayX c (t.nd i)
    · rw [hmx] at cc
      have HS3 := hid (stepN_2 (p := p) HK2.out hmx)
      clear hmx HMAY HMAP HLK HROW
      refine region_rg (by kernel_rfl) (by kernel_rfl) ?_
      repeat (quiet_step (with_reducible exact cc.out _ _))
      refine wpQuiet_nil ?_
      intro _ hw'
      obtain ⟨⟨dq, osq⟩, hw''⟩ := hw'
      subst hw''
      go_wp2_with fail
      go_ret2
      exact ⟨by rw [HS3.out]; rfl, bthen HW1.out (rg_below _ _ _)⟩
    · rw [hmx] at cc
      have HMX := hid hmx
      clear hmx HMAY
      refine region_rg (by kernel_rfl) (by kernel_rfl) ?_
      repeat (quiet_step (with_reducible exact cc.out _ _))
      refine wpQuiet_nil ?_
      intro _ hw'
      obtain ⟨⟨dq, osq⟩, hw''⟩ := hw'
      subst hw''
      have HW2 := hid (bthen HW1.out (rg_below W1 dq osq))
      obtain ⟨⟨g0, g1, g2, g3, g4⟩, g5, g6, g7, g8⟩ := hd_cells (HROW.out _ HW2.out)
      have hbl2 := hbl dq osq
      have hlk := HMAP.out _ HW2.out
      have hdd := ba_beq p [46, 46]
      clear k0 k1 k2 k3 k4 k5 k6 k7 k8 q0 q1 q2 q3 q4 cc hbl HMAP HROW
      generalize rg W1 dq osq = W2 at *
      rw [show lookN (t.nl i) p = (lookI (t.nd i).names p).map t.pt from HLK.out] at hlk
      by_cases hpd : p = dotdot
      · have HS4 := hid (stepN_3 HK2.out HMX.out hpd)
        rw [decide_eq_true (show p = [46, 46] from hpd)] at hdd
        clear hpd HLK hlk
        go_wp2_with fail
        go_ret2
        refine ⟨?_, HW2.out⟩
        rw [HS4.out]
        unfold resV
        rw [if_pos rfl, HUP.out]
        rfl
      · have HPD := hid hpd
        rw [decide_eq_false (show ¬ p = [46, 46] from hpd)] at hdd
        clear hpd HLK
        cases hl : lookI (t.nd i).names p with
        | none =>
          rw [hl] at hlk
          have HS4 := hid (stepN_4 HK2.out HMX.out HPD.out hl)
          simp only [Option.map_none, Option.isSome_none, lkNV] at hlk
          clear hl
          go_wp2_with fail
          go_ret2
          exact ⟨by rw [HS4.out]; rfl, HW2.out⟩
        | some j =>
          rw [hl] at hlk
          have HS4 := hid (stepN_5 HK2.out HMX.out HPD.out hl)
          simp only [Option.map_some, Option.isSome_some, lkNV] at hlk
          clear hl
          generalize hnd : ndV (t.pt j) = nv at *
          have HND := hid hnd
          clear hnd
          go_wp2_with fail
          go_ret2
          exact ⟨by rw [HS4.out, ← HND.out]; rfl, HW2.out⟩
  · rw [if_neg h2]
    have HS2 := hid (stepN_1 (c := c) (p := p) h2)
    by_cases h3 : (t.nd i).kind = 3
    · rw [if_pos h3]
      have hta := ta_dl (t.bk i)
      clear h2 h3 hd h hc HK
      unfold CR.v
      go_enter Try.func57, Try.ntmps57
      go_wp2_with fail
      go_ret2
      exact ⟨by rw [HS2.out]; rfl, HB0.out _⟩
    · rw [if_neg h3]
      have hta := ta_df (t.bk i)
      clear h2 h3 hd h hc HK
      unfold CR.v
      go_enter Try.func57, Try.ntmps57
      go_wp2_with fail
      go_ret2
      exact ⟨by rw [HS2.out]; rfl, HB0.out _⟩
end Go.Proofs.Ytgclemicgcbpjaa
