
/- Merged: Fm F0 F1 F2 F3 F4. -/
import Derived.Test.YtfaohejdaabalaaGreatDoorKA
import Derived.Test.YtfaohejdaabalaaGreatDoorRows
import Derived.Test.YtfaohejdaabalaaGreatDoorKE
import Derived.Maps.OwnSet
import Derived.Maps.Views
import Derived.Test.YtfaohejdaabalaaGreatDoorKP
import Derived.Test.YtfaohejdaabalaaGreatDoorVm
import Derived.Laws.EntriesVeiled
import Derived.Laws.AppendOwnNone
import Derived.BigQuiet
namespace Go.Proofs.YtfaohejdaabalaaGreatDoor
open Go.RowKit Go.Sort Go.WideMaps Go.Maps Go.WideShapes

def rdN {H : Type} (v : Value) : Option (DataW H × List MemPlace) := match v with
  | .iface T (.pointer (some ⟨b, 0, none⟩)) => some (.agg [.lit (.int .i64 (T : Nat)), .lit (.int .i64 (b : Nat))], [])
  | .nilIface => some (.lit (.bool false), [])
  | _ => none
/-- A node as a value: the type of the pointer, the block. -/
def ndV (p : Nat × Nat) : Value := .iface p.1 (.pointer (some ⟨p.2, 0, none⟩))
def ndD {H : Type} (p : Nat × Nat) : DataW H := .agg [.lit (.int .i64 (p.1 : Nat)), .lit (.int .i64 (p.2 : Nat))]
theorem rdN_nd {H : Type} (p : Nat × Nat) : rdN (H := H) (ndV p) = some (ndD p, []) := rfl
theorem rdN_nil {H : Type} : rdN (H := H) .nilIface = some (.lit (.bool false), []) := rfl
theorem rdN_inv {H : Type} {v : Value} {p : Nat × Nat} {ps : List MemPlace} (h : rdN (H := H) v = some (ndD p, ps)) : v = ndV p := by
  unfold rdN at h
  split at h
  · rename_i T b
    simp only [ndD, Option.some.injEq, Prod.mk.injEq, DataW.agg.injEq, List.cons.injEq, DataW.lit.injEq, Lit.int.injEq, true_and, and_true] at h
    obtain ⟨⟨h1, h2⟩, _⟩ := h
    have e1 : T = p.1 := by exact_mod_cast h1
    have e2 : b = p.2 := by exact_mod_cast h2
    subst e1 e2
    rfl
  · simp [ndD] at h
  · cases h
theorem rdN_nil_inv {H : Type} {v : Value} {ps : List MemPlace} (h : rdN (H := H) v = some (.lit (.bool false), ps)) : v = .nilIface := by
  unfold rdN at h
  split at h
  · simp at h
  · rfl
  · cases h

abbrev NL := List (BL × (Nat × Nat))
def putN {H : Type} (D : DataW H) (x : BL × (Nat × Nat)) : DataW H := D.put (.string x.1) (ndD x.2)
def mapD {H : Type} (l : NL) : DataW H := l.foldl putN (.map [])
def lookN (l : NL) (n : BL) : Option (Nat × Nat) := (l.reverse.find? fun x => decide (x.1 = n)).map (·.2)
theorem lookN_nil (n : BL) : lookN [] n = none := rfl
theorem lookN_snoc (l : NL) (x : BL × (Nat × Nat)) (n : BL) : lookN (l ++ [x]) n = if x.1 = n then some x.2 else lookN l n := by
  unfold lookN
  rw [List.reverse_append, List.reverse_singleton, List.singleton_append, List.find?_cons]
  by_cases h : x.1 = n
  · simp [h]
  · simp [h]
theorem mapD_snoc {H : Type} (l : NL) (x : BL × (Nat × Nat)) : mapD (H := H) (l ++ [x]) = (mapD l).put (.string x.1) (ndD x.2) := by simp [mapD, putN, List.foldl_append]
theorem mapD_is {H : Type} (l : NL) : IsMap (mapD (H := H) l) := by
  rcases l.eq_nil_or_concat with rfl | ⟨e, s, rfl⟩
  · exact ⟨[], rfl⟩
  · rw [List.concat_eq_append, mapD_snoc]; exact (mapD_is (H := H) e).put _ _
termination_by l.length
theorem mapD_at {H : Type} (n : BL) (z : DataW H) (l : NL) : (mapD (H := H) l).atKey (.string n) z = (match lookN l n with | some p => ndD p | none => z) := by
  rcases l.eq_nil_or_concat with rfl | ⟨e, s, rfl⟩
  · rfl
  · have ih := mapD_at (H := H) n z e
    rw [List.concat_eq_append, mapD_snoc, lookN_snoc]
    by_cases h : s.1 = n
    · rw [if_pos h, ← h, atKey_put_same (mapD_is e) (by trivial)]
    · rw [if_neg h, atKey_put_other (by intro e; cases e; exact h rfl), ih]
termination_by l.length
theorem mapD_has {H : Type} (n : BL) (l : NL) : Maps.has (mapD (H := H) l) (.string n) = (lookN l n).isSome := by
  rcases l.eq_nil_or_concat with rfl | ⟨e, s, rfl⟩
  · rfl
  · have ih := mapD_has (H := H) n e
    rw [List.concat_eq_append, mapD_snoc, lookN_snoc]
    by_cases h : s.1 = n
    · rw [if_pos h, ← h, has_put_same (mapD_is e) (by trivial)]; rfl
    · rw [if_neg h, has_put_other (by intro e; cases e; exact h rfl), ih]
termination_by l.length

theorem keyedS : Keyed Tryz.prog 9 := string_keyed Tryz.underlying9
theorem zeroN (w : World) : (zeroValue 145).run Tryz.prog w = .ok .nilIface w := by kernel_rfl
theorem keyS (l : BL) (h : l.length ≤ maxLen) : keyOf Tryz.prog 9 (.string (ba l)) = some (.string l) := by
  have := keyOf_string_mk (P := Tryz.prog) Tryz.underlying9 (s := ba l) (by rw [ba_size]; exact h)
  exact this

/-- A map in memory from texts to nodes. -/
def NMap (w : World) (m : Nat) (l : NL) : Prop := w.ownsMap Tryz.prog 9 (rdN (H := Unit)) m l.length (mapD l)
theorem NMap.made (w : World) : NMap (w.alloc (.map #[] 0)) w.heap.size [] := World.ownsMap_made _ _ _ _
theorem NMap.lt {w : World} {m : Nat} {l : NL} (h : NMap w m l) : m < w.heap.size := World.ownsMap.lt h
theorem NMap.same {w w' : World} {m : Nat} {l : NL} (h : NMap w m l) (e : w'.heap[m]? = w.heap[m]?) : NMap w' m l := by
  obtain ⟨es, clock, hm, F, hs, hD⟩ := h
  exact ⟨es, clock, e.trans hm, F, hs, hD⟩
theorem NMap.below {w w' : World} {m : Nat} {l : NL} (h : NMap w m l) (hb : Below w.heap.size w w') : NMap w' m l := h.same (hb.block m h.lt)
def lkNV (o : Option (Nat × Nat)) : Value := match o with
  | some p => ndV p
  | none => .nilIface
theorem NMap.look {w : World} {m : Nat} {l : NL} (h : NMap w m l) (n : BL) (hn : n.length ≤ maxLen) :
    (Instr.lookup 92 (.map (some m)) (.string (ba n)) true).run Tryz.prog w = .ok (.tuple #[lkNV (lookN l n), .bool (lookN l n).isSome]) w := by
  obtain ⟨v, ps, hrun, hv⟩ := World.ownsMap.look_ok h keyedS Tryz.underlying92 (zeroN w) rdN_nil (keyS n hn)
  rw [hrun, mapD_has]
  rw [mapD_at] at hv
  cases hl : lookN l n with
  | none =>
    rw [hl] at hv
    rw [rdN_nil_inv hv]
    rfl
  | some p =>
    rw [hl] at hv
    rw [rdN_inv hv]
    rfl
theorem NMap.put {w : World} {m : Nat} {l : NL} (h : NMap w m l) (n : BL) (hn : n.length ≤ maxLen) (hl : l.length < maxLen) (p : Nat × Nat) :
    ∃ w', (Instr.mapUpdate 92 (.map (some m)) (.string (ba n)) (ndV p)).run Tryz.prog w = .ok () w' ∧ NMap w' m (l ++ [(n, p)]) ∧ w.grownBy w' (some m) := by
  obtain ⟨w', h1, h2, h3⟩ := World.ownsMap.update h keyedS Tryz.underlying92 hl (keyS n hn) (rdN_nd p)
  refine ⟨w', h1, ?_, h3⟩
  unfold NMap
  rw [mapD_snoc, List.length_append]
  exact h2
end Go.Proofs.YtfaohejdaabalaaGreatDoor
namespace Go.Proofs.YtfaohejdaabalaaGreatDoor
open Go.RowKit Go.Sort

/-- A node: what is known of it, and what is in it. -/
structure ND where
  path : BL
  up : Nat
  kind : Int
  mode : Int
  uid : Int
  gid : Int
  size : Int
  names : List (BL × Nat)
  data : BL
  to : BL
deriving Inhabited, DecidableEq

def ndT (k : Int) : Nat := if k = 2 then 83 else if k = 3 then 167 else 151
def ndR (k : Int) : Nat := if k = 2 then 94 else if k = 3 then 169 else 154
/-- The nodes, and the blocks in which they lie (and their maps). -/
structure FT where
  L : List ND
  bs : List Nat
  ms : List Nat
def FT.nd (t : FT) (i : Nat) : ND := t.L.getD i default
def FT.bk (t : FT) (i : Nat) : Nat := t.bs.getD i 0
def FT.mp (t : FT) (i : Nat) : Nat := t.ms.getD i 0
def FT.pt (t : FT) (i : Nat) : Nat × Nat := (ndT (t.nd i).kind, t.bk i)
def FT.nl (t : FT) (i : Nat) : NL := (t.nd i).names.map fun p => (p.1, t.pt p.2)
def FT.hd (t : FT) (i : Nat) : List Value := [.int .i64 (i : Nat), .string (ba (t.nd i).path), .pointer (some ⟨t.bk (t.nd i).up, 0, none⟩), .int .u8 (t.nd i).kind, .int .u16 (t.nd i).mode, .int .u32 (t.nd i).uid, .int .u32 (t.nd i).gid, .int .i64 (t.nd i).size]

/-- A node in memory. -/
structure NodeAt (w : World) (t : FT) (i : Nat) : Prop where
  dir : (t.nd i).kind = 2 → Row w (t.bk i) 94 (t.hd i ++ [.map (some (t.mp i))]) ∧ NMap w (t.mp i) (t.nl i)
  link : (t.nd i).kind = 3 → Row w (t.bk i) 169 (t.hd i ++ [.string (ba (t.nd i).to)])
  file : (t.nd i).kind ≠ 2 → (t.nd i).kind ≠ 3 → ∃ v, Row w (t.bk i) 154 (t.hd i ++ [v]) ∧ w.ownsRow 0 5 1 v (t.nd i).data.length ((t.nd i).data.map B8)

/-- What holds of the nodes, whatever memory is. -/
structure Fine (L : List ND) : Prop where
  pos : 0 < L.length
  most : L.length ≤ 65
  root : (L.getD 0 default).kind = 2
  up : ∀ i, i < L.length → (L.getD i default).up < L.length ∧ (L.getD (L.getD i default).up default).kind = 2
  names : ∀ i, i < L.length → ∀ p ∈ (L.getD i default).names, p.2 < L.length
  many : ∀ i, i < L.length → (L.getD i default).names.length ≤ L.length
  data : ∀ i, i < L.length → (L.getD i default).data.length ≤ 65536 ∧ (L.getD i default).size = ((L.getD i default).data.length : Nat)
  mode : ∀ i, i < L.length → 0 ≤ (L.getD i default).mode ∧ (L.getD i default).mode ≤ 65535
  path : ∀ i, i < L.length → (L.getD i default).path.length ≤ 1000000
  to : ∀ i, i < L.length → (L.getD i default).to.length ≤ 200

/-- A file system in memory. -/
structure FSat (w : World) (F : Nat) (t : FT) : Prop where
  fine : Fine t.L
  top : ∃ v, Row w F 87 [.pointer (some ⟨t.bk 0, 0, none⟩), v] ∧ w.ownsRow 0 145 1 v t.L.length ((List.range t.L.length).map fun i => ndV (t.pt i))
  node : ∀ i, i < t.L.length → NodeAt w t i

theorem own_same {w w' : World} {base e size n : Nat} {v : Value} {xs : List Value} (h : w.ownsRow base e size v n xs) (hk : ∀ (b : Nat) (cs : Array Value), w.heap[b]? = some (Obj.cells cs e (0, 0)) → w'.heap[b]? = w.heap[b]?) : w'.ownsRow base e size v n xs := by
  refine ⟨h.1, ?_⟩
  rcases h.2 with hn | ⟨g, cap, cur, hv, hbg, hg, r⟩
  · exact .inl hn
  · exact .inr ⟨g, cap, cur, hv, hbg, by rw [hk g cur hg]; exact hg, r⟩
theorem Row.same {w w' : World} {g : Nat} {E : TypeId} {cs : List Value} (h : Row w g E cs) (hk : w'.heap[g]? = w.heap[g]?) : Row w' g E cs := ⟨by rw [hk]; exact h.heap⟩
theorem NodeAt.below {w w' : World} {t : FT} {i : Nat} (h : NodeAt w t i) (hb : Below w.heap.size w w') : NodeAt w' t i :=
  ⟨fun k => ⟨(h.dir k).1.below hb (h.dir k).1.lt, (h.dir k).2.below hb⟩, fun k => (h.link k).below hb (h.link k).lt, fun k k' => by
    obtain ⟨v, h1, h2⟩ := h.file k k'
    exact ⟨v, h1.below hb h1.lt, own_below h2 hb⟩⟩
theorem FSat.below {w w' : World} {F : Nat} {t : FT} (h : FSat w F t) (hb : Below w.heap.size w w') : FSat w' F t :=
  ⟨h.fine, by
    obtain ⟨v, h1, h2⟩ := h.top
    exact ⟨v, h1.below hb h1.lt, own_below h2 hb⟩, fun i hi => (h.node i hi).below hb⟩

/-- The eight cells that every node has. -/
theorem NodeAt.head {w : World} {t : FT} {i : Nat} (h : NodeAt w t i) : ∃ v, Row w (t.bk i) (ndR (t.nd i).kind) (t.hd i ++ [v]) := by
  unfold ndR
  by_cases k2 : (t.nd i).kind = 2
  · rw [if_pos k2]; exact ⟨_, (h.dir k2).1⟩
  · rw [if_neg k2]
    by_cases k3 : (t.nd i).kind = 3
    · rw [if_pos k3]; exact ⟨_, h.link k3⟩
    · rw [if_neg k3]
      obtain ⟨v, h1, _⟩ := h.file k2 k3
      exact ⟨v, h1⟩
theorem hd_cells {w : World} {t : FT} {i b : Nat} {E : TypeId} {v : Value} (h : Row w b E (t.hd i ++ [v])) :
    (w.cell? ⟨b, 0, none⟩ = some (.int .i64 (i : Nat)) ∧ w.cell? ⟨b, 1, none⟩ = some (.string (ba (t.nd i).path)) ∧ w.cell? ⟨b, 2, none⟩ = some (.pointer (some ⟨t.bk (t.nd i).up, 0, none⟩)) ∧ w.cell? ⟨b, 3, none⟩ = some (.int .u8 (t.nd i).kind) ∧ w.cell? ⟨b, 4, none⟩ = some (.int .u16 (t.nd i).mode)) ∧
    (w.cell? ⟨b, 5, none⟩ = some (.int .u32 (t.nd i).uid) ∧ w.cell? ⟨b, 6, none⟩ = some (.int .u32 (t.nd i).gid) ∧ w.cell? ⟨b, 7, none⟩ = some (.int .i64 (t.nd i).size) ∧ w.cell? ⟨b, 8, none⟩ = some v) :=
  ⟨⟨h.cell 0 (by simp [FT.hd]), h.cell 1 (by simp [FT.hd]), h.cell 2 (by simp [FT.hd]), h.cell 3 (by simp [FT.hd]), h.cell 4 (by simp [FT.hd])⟩, h.cell 5 (by simp [FT.hd]), h.cell 6 (by simp [FT.hd]), h.cell 7 (by simp [FT.hd]), h.cell 8 (by simp [FT.hd])⟩

/-- The node's value in the slice of nodes. -/
theorem FSat.at {w : World} {F : Nat} {t : FT} (h : FSat w F t) : ∃ a c, w.cell? ⟨F, 0, none⟩ = some (.pointer (some ⟨t.bk 0, 0, none⟩)) ∧ w.cell? ⟨F, 1, none⟩ = some (.slice a t.L.length c) ∧ F < w.heap.size ∧ ∃ b off, a = some ⟨b, off, none⟩ ∧ b < w.heap.size ∧ ∀ i, i < t.L.length → w.cell? ⟨b, off + i, none⟩ = some (ndV (t.pt i)) := by
  obtain ⟨v, h1, h2⟩ := h.top
  obtain ⟨a, c, rfl, hc, _⟩ := own_cel h2
  obtain ⟨b, off, rfl, hat⟩ := hc.some_of (by simp; exact h.fine.pos)
  have hz := World.block_lt_of_cell? w _ (hat 0 (by simp; exact h.fine.pos))
  exact ⟨_, c, h1.cell 0 (by simp), h1.cell 1 (by simp), h1.lt, b, off, rfl, hz, fun i hi => by
    have := hat i (by simpa using hi)
    simpa using this⟩
end Go.Proofs.YtfaohejdaabalaaGreatDoor
namespace Go.Proofs.YtfaohejdaabalaaGreatDoor
open Go.RowKit Go.Sort

theorem ndV_kind (k : Int) (b : Nat) : ndV (ndT k, b) = if k = 2 then .iface 83 (.pointer (some ⟨b, 0, none⟩)) else if k = 3 then .iface 167 (.pointer (some ⟨b, 0, none⟩)) else .iface 151 (.pointer (some ⟨b, 0, none⟩)) := by
  unfold ndV ndT
  split
  · rfl
  · split <;> rfl

theorem ta_dd (b : Nat) (w : World) : (Instr.typeAssert (.iface 83 (.pointer (some ⟨b, 0, none⟩))) 145 83 true).run Tryz.prog w = .ok (.tuple #[.pointer (some ⟨b, 0, none⟩), .bool true]) w := by kernel_rfl
theorem ta_dl (b : Nat) (w : World) : (Instr.typeAssert (.iface 167 (.pointer (some ⟨b, 0, none⟩))) 145 83 true).run Tryz.prog w = .ok (.tuple #[.pointer none, .bool false]) w := by kernel_rfl
theorem ta_df (b : Nat) (w : World) : (Instr.typeAssert (.iface 151 (.pointer (some ⟨b, 0, none⟩))) 145 83 true).run Tryz.prog w = .ok (.tuple #[.pointer none, .bool false]) w := by kernel_rfl
theorem ta_ld (b : Nat) (w : World) : (Instr.typeAssert (.iface 83 (.pointer (some ⟨b, 0, none⟩))) 145 167 true).run Tryz.prog w = .ok (.tuple #[.pointer none, .bool false]) w := by kernel_rfl
theorem ta_ll (b : Nat) (w : World) : (Instr.typeAssert (.iface 167 (.pointer (some ⟨b, 0, none⟩))) 145 167 true).run Tryz.prog w = .ok (.tuple #[.pointer (some ⟨b, 0, none⟩), .bool true]) w := by kernel_rfl
theorem ta_lf (b : Nat) (w : World) : (Instr.typeAssert (.iface 151 (.pointer (some ⟨b, 0, none⟩))) 145 167 true).run Tryz.prog w = .ok (.tuple #[.pointer none, .bool false]) w := by kernel_rfl
theorem ta_fd (b : Nat) (w : World) : (Instr.typeAssert (.iface 83 (.pointer (some ⟨b, 0, none⟩))) 145 151 true).run Tryz.prog w = .ok (.tuple #[.pointer none, .bool false]) w := by kernel_rfl
theorem ta_fl (b : Nat) (w : World) : (Instr.typeAssert (.iface 167 (.pointer (some ⟨b, 0, none⟩))) 145 151 true).run Tryz.prog w = .ok (.tuple #[.pointer none, .bool false]) w := by kernel_rfl
theorem ta_ff (b : Nat) (w : World) : (Instr.typeAssert (.iface 151 (.pointer (some ⟨b, 0, none⟩))) 145 151 true).run Tryz.prog w = .ok (.tuple #[.pointer (some ⟨b, 0, none⟩), .bool true]) w := by kernel_rfl

theorem isDir_any (k : Int) (b : Nat) (w : World) :
    Calls Tryz.prog 70 #[ndV (ndT k, b)] w fun e w' => e = .returned (.bool (decide (k = 2))) ∧ w = w' := by
  rw [ndV_kind]
  by_cases h2 : k = 2
  · rw [if_pos h2, decide_eq_true h2]
    clear h2
    have ht := ta_dd b
    go_enter Tryz.func70, Tryz.ntmps70
    go_wp2_with fail
    go_ret
    exact ⟨rfl, rfl⟩
  · rw [if_neg h2, decide_eq_false h2]
    clear h2
    by_cases h3 : k = 3
    · rw [if_pos h3]
      clear h3
      have ht := ta_dl b
      go_enter Tryz.func70, Tryz.ntmps70
      go_wp2_with fail
      go_ret
      exact ⟨rfl, rfl⟩
    · rw [if_neg h3]
      clear h3
      have ht := ta_df b
      go_enter Tryz.func70, Tryz.ntmps70
      go_wp2_with fail
      go_ret
      exact ⟨rfl, rfl⟩

def nodeE (t : FT) (i : Int) : Value := if 0 ≤ i ∧ i < (t.L.length : Int) then .tuple #[ndV (t.pt i.toNat), .bool true] else .tuple #[.nilIface, .bool false]

theorem node_any (F : Nat) (t : FT) (i : Int) (w : World) (h : FSat w F t) :
    Calls Tryz.prog 69 #[.pointer (some ⟨F, 0, none⟩), .int .i64 i] w fun e w' => e = .returned (nodeE t i) ∧ w = w' := by
  obtain ⟨a, c, c0, c1, hF, b, off, rfl, hbz, hat⟩ := h.at
  have HAT := hid hat
  clear hat h
  by_cases h0 : i < 0
  · have HN := hid (show nodeE t i = .tuple #[.nilIface, .bool false] by unfold nodeE; rw [if_neg (by omega)])
    have d0 : decide (i < 0) = true := by simpa using h0
    clear h0
    go_enter Tryz.func69, Tryz.ntmps69
    go_wp2_with fail
    go_ret2
    exact ⟨by rw [HN.out]; rfl, rfl⟩
  · have d0 : decide (i < 0) = false := by simpa using h0
    by_cases h1 : i < (t.L.length : Int)
    · obtain ⟨k, rfl⟩ : ∃ k : Nat, i = (k : Int) := ⟨i.toNat, by omega⟩
      have HN := hid (show nodeE t (k : Int) = .tuple #[ndV (t.pt k), .bool true] by unfold nodeE; rw [if_pos (by omega)]; rfl)
      have d1 : decide ((t.L.length : Int) ≤ (k : Int)) = false := by simp; omega
      have d1n : decide (t.L.length ≤ k) = false := by simp; omega
      have hk : k < t.L.length := by omega
      have hx := HAT.out k hk
      clear h0 h1
      generalize ndV (t.pt k) = v at *
      go_enter Tryz.func69, Tryz.ntmps69
      go_wp2_with fail
      go_ret2
      exact ⟨by rw [HN.out]; rfl, rfl⟩
    · have HN := hid (show nodeE t i = .tuple #[.nilIface, .bool false] by unfold nodeE; rw [if_neg (by omega)])
      have d1 : decide ((t.L.length : Int) ≤ i) = true := by simp; omega
      clear h0 h1
      go_enter Tryz.func69, Tryz.ntmps69
      go_wp2_with fail
      go_ret2
      exact ⟨by rw [HN.out]; rfl, rfl⟩
end Go.Proofs.YtfaohejdaabalaaGreatDoor
namespace Go.Proofs.YtfaohejdaabalaaGreatDoor
open Go.RowKit Go.Sort

abbrev metaV (x : ND) : Value := .agg #[.int .u8 x.kind, .int .u16 x.mode, .int .u32 x.uid, .int .u32 x.gid, .int .i64 x.size]
theorem node_in (F : Nat) (t : FT) (i : Nat) (w : World) (h : FSat w F t) (hi : i < t.L.length) :
    Calls Tryz.prog 69 #[.pointer (some ⟨F, 0, none⟩), .int .i64 i] w fun e w' => e = .returned (.tuple #[if (t.nd i).kind = 2 then .iface 83 (.pointer (some ⟨t.bk i, 0, none⟩)) else if (t.nd i).kind = 3 then .iface 167 (.pointer (some ⟨t.bk i, 0, none⟩)) else .iface 151 (.pointer (some ⟨t.bk i, 0, none⟩)), .bool true]) ∧ w = w' := by
  refine (node_any F t i w h).mono ?_
  rintro e w' ⟨rfl, rfl⟩
  refine ⟨?_, rfl⟩
  unfold nodeE
  rw [if_pos (by omega), ← ndV_kind]
  rfl
theorem node_out (F : Nat) (t : FT) (i : Int) (w : World) (h : FSat w F t) (hi : ¬ (0 ≤ i ∧ i < (t.L.length : Int))) :
    Calls Tryz.prog 69 #[.pointer (some ⟨F, 0, none⟩), .int .i64 i] w fun e w' => e = .returned (.tuple #[.nilIface, .bool false]) ∧ w = w' := by
  refine (node_any F t i w h).mono ?_
  rintro e w' ⟨rfl, rfl⟩
  refine ⟨?_, rfl⟩
  unfold nodeE
  rw [if_neg hi]

theorem read_none (i a b : Int) (w : World) : Calls Tryz.prog 44 #[.pointer none, .int .i64 i, .int .i64 a, .int .i64 b] w fun e w' => e = .returned (.tuple #[.slice none 0 0, .int .i64 2]) ∧ w = w' := by
  go_enter Tryz.func44, Tryz.ntmps44
  go_wp2_with fail
  go_ret2
  exact ⟨rfl, rfl⟩

end Go.Proofs.YtfaohejdaabalaaGreatDoor
namespace Go.Proofs.YtfaohejdaabalaaGreatDoor
open Go.RowKit Go.Sort

/-- Who goes. -/
structure CR where
  u : Int
  e : Int
  s : Int
  g : Int
  a : Option Addr
  n : Nat
  c : Nat
  l : List Int
def CR.v (c : CR) : Value := .agg #[.int .u32 c.u, .int .u32 c.e, .int .u32 c.s, .int .u32 c.g, .slice c.a c.n c.c]
structure CrOk (w : World) (c : CR) : Prop where
  nums : Nums w .u32 c.a c.n c.l
  most : c.n ≤ 1048576
theorem CrOk.below {w w' : World} {c : CR} (h : CrOk w c) (hb : Below w.heap.size w w') : CrOk w' c := ⟨h.nums.below' hb, h.most⟩
def mayX (c : CR) (x : ND) : Bool := mayB c.e c.g c.l x.kind x.mode x.uid x.gid 1
def lookI (l : List (BL × Nat)) (n : BL) : Option Nat := (l.reverse.find? fun x => decide (x.1 = n)).map (·.2)
theorem lookI_map (f : Nat → Nat × Nat) (l : List (BL × Nat)) (n : BL) : lookN (l.map fun p => (p.1, f p.2)) n = (lookI l n).map f := by
  unfold lookN lookI
  rw [← List.map_reverse, List.find?_map]
  simp only [Option.map_map]
  rfl
theorem lookI_mem {l : List (BL × Nat)} {n : BL} {j : Nat} (h : lookI l n = some j) : (n, j) ∈ l := by
  unfold lookI at h
  obtain ⟨⟨m, j'⟩, h1, rfl⟩ := Option.map_eq_some_iff.1 h
  have h2 := List.find?_some h1
  have h3 := List.mem_of_find?_eq_some h1
  simp only [decide_eq_true_eq] at h2
  subst h2
  simpa using h3
def dotdot : BL := [46, 46]
def stepN (c : CR) (x : ND) (p : BL) : Int × Nat :=
  if x.kind ≠ 2 then (8, 0) else if mayX c x = false then (5, 0) else if p = dotdot then (0, x.up) else
    match lookI x.names p with
    | some j => (0, j)
    | none => (3, 0)
def stepL (L : List ND) (c : CR) (i : Nat) (p : BL) : Int × Nat := stepN c (L.getD i default) p
theorem stepN_1 {c : CR} {x : ND} {p : BL} (h : ¬ x.kind = 2) : stepN c x p = (8, 0) := by unfold stepN; rw [if_pos h]
theorem stepN_2 {c : CR} {x : ND} {p : BL} (h : x.kind = 2) (h2 : mayX c x = false) : stepN c x p = (5, 0) := by unfold stepN; rw [if_neg (by simpa using h), if_pos h2]
theorem stepN_3 {c : CR} {x : ND} {p : BL} (h : x.kind = 2) (h2 : mayX c x = true) (h3 : p = dotdot) : stepN c x p = (0, x.up) := by unfold stepN; rw [if_neg (by simpa using h), if_neg (by rw [h2]; simp), if_pos h3]
theorem stepN_4 {c : CR} {x : ND} {p : BL} (h : x.kind = 2) (h2 : mayX c x = true) (h3 : ¬ p = dotdot) (h4 : lookI x.names p = none) : stepN c x p = (3, 0) := by unfold stepN; rw [if_neg (by simpa using h), if_neg (by rw [h2]; simp), if_neg h3, h4]
theorem stepN_5 {c : CR} {x : ND} {p : BL} {j : Nat} (h : x.kind = 2) (h2 : mayX c x = true) (h3 : ¬ p = dotdot) (h4 : lookI x.names p = some j) : stepN c x p = (0, j) := by unfold stepN; rw [if_neg (by simpa using h), if_neg (by rw [h2]; simp), if_neg h3, h4]
def resV (t : FT) (r : Int × Nat) : Value := .tuple #[if r.1 = 0 then ndV (t.pt r.2) else .nilIface, .int .i64 r.1]

end Go.Proofs.YtfaohejdaabalaaGreatDoor
namespace Go.Proofs.YtfaohejdaabalaaGreatDoor
open Go.RowKit Go.Sort

def followL (L : List ND) (c : CR) (last : Bool) (links at_ : Nat) : List BL → Int × Nat
  | [] => (0, at_)
  | p :: rest =>
    if (stepL L c at_ p).1 = 0 then
      if (L.getD (stepL L c at_ p).2 default).kind ≠ 3 ∨ (rest = [] ∧ last = false) then followL L c last links (stepL L c at_ p).2 rest
      else if h : 8 ≤ links then (10, 0)
      else followL L c last (links + 1) (if rootF (L.getD (stepL L c at_ p).2 default).to = true then 0 else at_) (partsF (L.getD (stepL L c at_ p).2 default).to ++ rest)
    else ((stepL L c at_ p).1, 0)
termination_by left => (9 - links, left.length)
decreasing_by
  all_goals simp_wf
  · right; omega
  · left; omega

section
variable {L : List ND} {c : CR} {last : Bool} {links at_ nx : Nat} {p : BL} {rest : List BL}
theorem followL_nil : followL L c last links at_ [] = (0, at_) := by rw [followL]
theorem followL_bad (h : ¬ (stepL L c at_ p).1 = 0) : followL L c last links at_ (p :: rest) = ((stepL L c at_ p).1, 0) := by rw [followL, if_neg h]
theorem followL_step (h : stepL L c at_ p = (0, nx)) (h2 : (L.getD nx default).kind ≠ 3 ∨ (rest = [] ∧ last = false)) : followL L c last links at_ (p :: rest) = followL L c last links nx rest := by
  rw [followL, h, if_pos rfl, if_pos h2]
theorem followL_loop (h : stepL L c at_ p = (0, nx)) (hk : (L.getD nx default).kind = 3) (h2 : ¬ (rest = [] ∧ last = false)) (h8 : 8 ≤ links) : followL L c last links at_ (p :: rest) = (10, 0) := by
  rw [followL, h, if_pos rfl, if_neg (fun h => h.elim (fun h => h hk) h2), dif_pos h8]
theorem followL_link (h : stepL L c at_ p = (0, nx)) (hk : (L.getD nx default).kind = 3) (h2 : ¬ (rest = [] ∧ last = false)) (h8 : ¬ 8 ≤ links) : followL L c last links at_ (p :: rest) = followL L c last (links + 1) (if rootF (L.getD nx default).to = true then 0 else at_) (partsF (L.getD nx default).to ++ rest) := by
  rw [followL, h, if_pos rfl, if_neg (fun h => h.elim (fun h => h hk) h2), dif_neg h8]
end
theorem step_in {L : List ND} {c : CR} {i nx : Nat} {p : BL} (hf : Fine L) (hi : i < L.length) (h : stepL L c i p = (0, nx)) : nx < L.length := by
  unfold stepL stepN at h
  split at h
  · cases h
  · split at h
    · cases h
    · split at h
      · cases h; exact (hf.up i hi).1
      · split at h
        · rename_i j hj
          cases h
          exact hf.names i hi _ (lookI_mem hj)
        · cases h

theorem strs_one1 (ds : List BL) : ∀ u ∈ strs ds, u.oneCell' = true := by
  intro u hu
  unfold strs at hu
  obtain ⟨x, _, rfl⟩ := List.mem_map.1 hu
  rfl
theorem strs_app (a b : List BL) : strs (a ++ b) = strs a ++ strs b := by simp [strs]
theorem cuts_len (l : BL) : (cuts 47 l).length ≤ l.length + 1 := by
  have := cst_len 47 l
  unfold cuts
  simp only [List.length_append, List.length_singleton]
  omega
theorem parts_count (l : BL) : (partsF l).length ≤ 201 := by
  unfold partsF
  split
  · rename_i h
    have h1 : l.length ≤ 200 := by
      unfold chkE at h
      split at h
      · cases h
      · split at h
        · cases h
        · split at h
          · cases h
          · omega
    have h2 := cuts_len l
    have h3 := List.length_filter_le goodP (cuts 47 l)
    unfold partsL
    omega
  · simp
theorem parts_small (l : BL) : ∀ p ∈ partsF l, p.length ≤ 1000 := by
  unfold partsF
  split
  · rename_i h
    intro p hp
    have h1 : tooLong l = false := by
      unfold chkE at h
      split at h
      · cases h
      · split at h
        · cases h
        · split at h
          · cases h
          · split at h
            · cases h
            · rename_i h5; simpa using h5
    unfold tooLong at h1
    rw [List.any_eq_false] at h1
    have := h1 p (List.mem_filter.1 hp).1
    simp at this
    omega
  · simp
theorem app_small {a b : List BL} {n : Nat} (ha : ∀ p ∈ a, p.length ≤ n) (hb : ∀ p ∈ b, p.length ≤ n) : ∀ p ∈ a ++ b, p.length ≤ n := by
  intro p hp
  rcases List.mem_append.1 hp with h | h
  · exact ha p h
  · exact hb p h

/-- x[1:]. -/
theorem tail_slice (b o c n : Nat) (hn : n + 1 ≤ c) : ∃ aR : Addr, (∀ w, (Instr.slice 125 (.slice (some ⟨b, o, none⟩) (n + 1) c) (some (.int .i64 1)) none none).run Tryz.prog w = .ok (.slice (some aR) n (c - 1)) w) ∧ ∀ (w : World) (x : Value) (cs : List Value), Cel w (some ⟨b, o, none⟩) (n + 1) (x :: cs) → Cel w (some aR) n cs := by
  have hz : ∀ w, (sizeOf (Tryz.prog.elem 125)).run Tryz.prog w = .ok 1 w := fun w => by kernel_rfl
  refine ⟨if c = 1 then ⟨b, o, none⟩ else ⟨b, o + 1, none⟩, fun w => ?_, fun w x cs h => ?_⟩
  · rw [run_slice_l w 125 _ _ _ (by kernel_rfl) .i64 1 (by omega) (by omega), hz]
    simp only [Result.andThen, sliced]
    by_cases h1 : c = 1
    · subst h1; simp
    · have : ¬ c = (1 : Int).toNat := h1
      rw [if_neg this, if_neg h1]
      simp [Addr.add]
  · have hl : cs.length = n := by have := h.hlen; simpa using this
    refine ⟨hl, fun i hi => ?_⟩
    rw [if_neg (by omega)]
    obtain ⟨b', o', e, hc⟩ := h.cell (i + 1) (by simp; omega)
    cases e
    refine ⟨b, o + 1, rfl, ?_⟩
    rw [show o + 1 + i = o + (i + 1) by omega, hc]
    simp

theorem _root_.Go.RowKit.Below.below_of_own {W2 w3 w4 : World} {e size n : Nat} {v : Value} {xs : List Value} (_ : Below w3.heap.size w3 w3) (hg : w3.grownBy w4 v.ownBlock) (ho : w3.ownsRow W2.heap.size e size v n xs) (hz : W2.heap.size ≤ w3.heap.size) (hb : Below W2.heap.size W2 w3) : Below W2.heap.size W2 w4 :=
  hb.grown hg hz (fun k hk => own_low ho (Nat.le_refl _) k hk)
def lenS : Value → Nat
  | .slice _ n _ => n
  | _ => 0

end Go.Proofs.YtfaohejdaabalaaGreatDoor
