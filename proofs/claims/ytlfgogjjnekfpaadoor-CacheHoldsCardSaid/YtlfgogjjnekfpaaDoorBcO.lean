
/- CacheFills: what is plain of it; same, of two lists of bytes. -/
import Derived.Test.YtlfgogjjnekfpaaDoorBcL
import Derived.BigQuiet
namespace Go.Proofs.YtlfgogjjnekfpaaDoor
open Go.RowKit Go.Sort Go.Shelf Go.WideMaps Go.Maps Go.WideShapes Go.WideElems Go.MapKept Go.ChangeMaps
attribute [local go_sem] Oper.semAt_some

def u8I (x : Int) : Value := .int .u8 x
set_option maxHeartbeats 1000000 in
theorem same8_any (a b : Option Addr) (ca cb : Nat) (l : List Int) (w : World) (hA : Cel w a l.length (l.map u8I)) (hB : Cel w b l.length (l.map u8I)) (hl : l.length ≤ 1000000) :
    Calls Tryd.prog 29 #[.slice a l.length ca, .slice b l.length cb] w fun e w' => e = .returned (.bool true) ∧ ∃ k, w' = w.drewN k := by
  have HA := hid hA
  have HB := hid hB
  clear hA hB
  go_enter Tryd.func29, Tryd.ntmps29
  go_wp2_with fail
  go_loopw [5] (fun i wr => ∃ k q : Nat, k ≤ l.length ∧ i = .int .i64 k ∧ wr = w.drewN q) (fun i _ => l.length - (intOf i).toNat)
  case atStart => exact ⟨0, 0, Nat.zero_le _, rfl, rfl⟩
  case round =>
    obtain ⟨k, q, hk, rfl, rfl⟩ := hrel
    by_cases hlt : k < l.length
    · have d1 : decide ((k : Int) < (l.length : Int)) = true := by simp; omega
      have d1n : decide (k < l.length) = true := by simp; omega
      obtain ⟨ba, oa, rfl, hat⟩ := HA.out.some_of (by simp; omega)
      obtain ⟨bb, ob, rfl, hbt⟩ := HB.out.some_of (by simp; omega)
      have hca := hat k (by simpa using hlt)
      have hcb := hbt k (by simpa using hlt)
      rw [List.getElem_map] at hca hcb
      unfold u8I at hca hcb
      have hla := World.block_lt_of_cell? _ _ hca
      have hlb := World.block_lt_of_cell? _ _ hcb
      clear hat hbt
      generalize l[k] = y at *
      have ez : (0 : Int) ≤ (k : Int) := by omega
      have eb : (k : Int) < (l.length : Int) := by omega
      go_wp2_with fail
      go_quiet (fail)
      go_wp2_with fail
      go_roundw
      case rel => exact ⟨k + 1, q + nq, by omega, by go_num, rfl⟩
      case measure => simp [intOf]; omega
    · have d1 : decide ((k : Int) < (l.length : Int)) = false := by simp; omega
      have d1n : decide (k < l.length) = false := by simp; omega
      go_wp2_with fail
      go_ret
      exact ⟨rfl, q, rfl⟩
theorem load_all8 {fs : List FR} {k : Nat} (hok : FsOk fs) (hk : k < fs.length) (hc : fs[k].cnt ≠ 0) : loadE fs k 0 4096 = 0 ∧ loadL fs k 0 4096 = fs[k].bs := by
  have ht : takE fs (k : Int) = 0 := by
    unfold takE
    rw [cntF_at hk, if_neg hc]
  unfold loadE loadL
  rw [ht, show withinB 0 4096 = true by decide, Int.toNat_natCast, getF_at _ _ _ hk]
  refine ⟨rfl, ?_⟩
  have := hok _ (List.getElem_mem hk)
  simp only [if_true]
  rw [show (0 : Int).toNat = 0 from rfl, show (4096 : Int).toNat = 4096 from rfl, List.drop_zero, List.take_of_length_le (by omega)]
/-- What a page that is read is of. -/
theorem rdP16_ok {L : List ND} (hk : KOk L) {i pg : Int} (h : (rdP16 L i pg).2 = 0) : ∃ k : Nat, i = (k : Int) ∧ k < L.length ∧ (L.getD k default).kind = 1 := by
  unfold rdP16 readL at h
  split at h
  · cases h
  · rename_i h1
    split at h
    · cases h
    · rename_i h2
      split at h
      · cases h
      · rename_i h3
        obtain ⟨k, rfl⟩ := Int.eq_ofNat_of_zero_le (show 0 ≤ i by omega)
        rw [Int.toNat_natCast] at h2 h3
        have hl : k < L.length := by omega
        refine ⟨k, rfl, hl, ?_⟩
        rcases hk k hl with e | e | e
        · exact e
        · exact absurd e h2
        · exact absurd (.inl e) h3
/-- A page that a slot is of is got anew as it is. -/
theorem getC_hit {rd : Int → Int → List UInt8 × Int} {s : CC} {hx : List Nat} (G : Good rd s hx) {y : SLO} (hy : y ∈ s.sl) : ∃ s2, getC rd s y.i y.p = (y.f, 0, s2) ∧ s2.fs = s.fs := by
  obtain ⟨h1, h2, h3⟩ := G.page y hy
  unfold getC
  rw [if_neg (by omega), if_neg (by simpa using h3), look_of G hy]
  exact ⟨_, rfl, rfl⟩
theorem b8_u8 (l : List UInt8) : l.map B8 = (b2i l).map u8I := by
  unfold b2i
  rw [List.map_map]
  rfl
theorem wpList_apU8 {w : World} {ops : Array Oper} {rest : List Oper} {o : Oper} {a : Act} {Q : Exit → Act → World → Prop} (hgd : o.guard = none) (s x : Operand)
    (ho : o.op = .call { callee := .builtin .append, args := #[s, x], argTypes := #[64, 64] })
    (base : Nat) (v : Value) (n : Nat) (xs news : List Value) (hs : a.eval s = v) (ad : Addr) (m c : Nat) (hx : a.eval x = .slice (some ad) m c) (hown : w.ownsRow base 5 1 v n xs) (hy : Cel w (some ad) m news) (hone : ∀ u ∈ news, u.oneCell' = true) (hn : n + m ≤ 1000000000) (hbase : base ≤ w.heap.size)
    (h : ∀ v' w', w'.ownsRow base 5 1 v' (n + m) (xs ++ news) → w.grownBy w' v.ownBlock → (v'.ownBlock = v.ownBlock ∨ v'.ownBlock = some w.heap.size) → wpList Tryd.prog ops Q rest (a.put o.dst v') w') :
    wpList Tryd.prog ops Q (o :: rest) a w := by
  obtain ⟨i0, hi0, hz0, hz1, hz2⟩ := info_parts infoU8b
  refine wpList_append_own_at w hgd s x _ ho base _ i0 _ 1 1 Tryd.underlying64 hi0 hz0 hz1 hz2 rfl (by decide) v n _ hs hown ad m c news hx (by have := hy.hlen; omega) hy.news hone (by unfold maxLen; omega) (by omega) hbase ?_
  intro v' w' h1 h2 _ h4
  exact h v' w' h1 h2 h4
structure PadF (W : World) (B : Nat) (v : Value) (n : Nat) (xs : List Value) (W1 : World) : Prop where
  own : W1.ownsRow B 5 1 v n xs
  cel : Cel W1 (some ⟨W.heap.size, 0, none⟩) 1 [B8 0]
  size : B ≤ W1.heap.size
theorem pad_f {W : World} {B : Nat} {v : Value} {n : Nat} {xs : List Value} (ho : W.ownsRow B 5 1 v n xs) (hB : B ≤ W.heap.size) : PadF W B v n xs (W.alloc (.cells #[.int .u8 0] 5)) :=
  ⟨ho.alloc _, by have hh := Row.new W 5 [B8 0]; exact ⟨rfl, fun i hi => ⟨_, 0, rfl, by rw [Nat.zero_add]; exact hh.cell i hi⟩⟩, by rw [World.size_alloc]; exact Nat.le_succ_of_le hB⟩
theorem pad_b {W W1 w' w0 : World} {B : Nat} {v : Value} {n : Nat} {xs : List Value} (h : PadF W B v n xs W1) (hb : Below B w0 W1) (hg : W1.grownBy w' v.ownBlock) : Below B w0 w' :=
  (EX.of_grown (S := fun k => B ≤ k) hg (fun k e _ => (h.own.lt k e).1)).below hb (fun _ hk => hk) h.size
def slN (v : Value) : Nat := match v with
  | .slice _ n _ => n
  | _ => 0
end Go.Proofs.YtlfgogjjnekfpaaDoor
