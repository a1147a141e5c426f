
/- hostellaw07.vast, twin, played. -/
import Derived.Test.YtllkeeeajlgkpaaDoorJB
import Derived.Deep.RegionHeld3
namespace Go.Proofs.YtllkeeeajlgkpaaDoor
open Go.RowKit Go.Sort

def VastPost (len : Nat) (f : Nat → OP) (w : World) (e : Ending) (w' : World) : Prop := ∃ b, e = .returned (.bool b) ∧ (b = false → len ≤ 300 ∧ ∀ i, i < len → (f i).bn ≤ 16384) ∧ w = w'
theorem vast_any (a : Option Addr) (len cap : Nat) (f : Nat → OP) (w : World) (hA : OpsIn w a len f) (hm : len ≤ 9223372036854775807) :
    Calls Tryd.prog 4 #[.slice a len cap] w (VastPost len f w) := by
  have HA := hid hA
  clear hA
  by_cases h3 : 300 < len
  · have d0 : decide ((300 : Int) < (len : Int)) = true := by simp; omega
    have d0n : decide (300 < len) = true := by simp; omega
    go_enter Tryd.func4, Tryd.ntmps4
    go_wp2_with fail
    go_ret
    exact ⟨true, rfl, (fun h => by cases h), rfl⟩
  · have d0 : decide ((300 : Int) < (len : Int)) = false := by simp; omega
    have d0n : decide (300 < len) = false := by simp; omega
    go_enter Tryd.func4, Tryd.ntmps4
    go_wp2_with fail
    go_loopw [3] (fun i wr => ∃ k : Nat, k ≤ len ∧ i = .int .i64 k ∧ (∀ i, i < k → (f i).bn ≤ 16384) ∧ wr = w) (fun i _ => len - (intOf i).toNat)
    case atStart => exact ⟨0, Nat.zero_le _, rfl, fun i hi => by omega, rfl⟩
    case round =>
      obtain ⟨k, hk, rfl, hz, rfl⟩ := hrel
      have HZ := hid hz
      clear hz
      by_cases hlt : k < len
      · have d1 : decide ((k : Int) < (len : Int)) = true := by simp; omega
        have d1n : decide (k < len) = true := by simp; omega
        obtain ⟨hok, b, off, rfl, h0, h1, h2, h4, h5⟩ := HA.out k hlt
        have hlb := World.block_lt_of_cell? _ _ h0
        have hmm : maxLen = 9223372036854775807 := rfl
        have hbn : (f k).bn ≤ 9223372036854775807 := by have := hok.le; have := hok.mx; omega
        clear hok
        have HFK := hid (rfl : f k = f k)
        generalize hx : f k = x at *
        have HX := hid hx
        clear hx hmm
        by_cases c : x.bn ≤ 16384
        · have d2 : decide ((16384 : Int) < (x.bn : Int)) = false := by simp; omega
          have d2n : decide (16384 < x.bn) = false := by simp; omega
          have ez : (0 : Int) ≤ (k : Int) := by omega
          have eb : (k : Int) < (len : Int) := by omega
          go_wp2_with fail
          go_roundw
          case rel => exact ⟨k + 1, by omega, by go_num, fun i hi => by
            by_cases e : i < k
            · exact HZ.out i e
            · obtain rfl : i = k := by omega
              rw [HX.out]; exact c, trivial⟩
          case measure => simp [intOf]; omega
        · have d2 : decide ((16384 : Int) < (x.bn : Int)) = true := by simp; omega
          have d2n : decide (16384 < x.bn) = true := by simp; omega
          have ez : (0 : Int) ≤ (k : Int) := by omega
          have eb : (k : Int) < (len : Int) := by omega
          go_wp2_with fail
          go_ret
          exact ⟨true, rfl, (fun h => by cases h), rfl⟩
      · have d1 : decide ((k : Int) < (len : Int)) = false := by simp; omega
        have d1n : decide (k < len) = false := by simp; omega
        go_wp2_with fail
        go_ret
        exact ⟨false, rfl, (fun _ => ⟨by omega, fun i hi => HZ.out i (by omega)⟩), rfl⟩

theorem twin_any (a : Option Addr) (n cap : Nat) (l : List Int) (w : World) (hA : Nums w .u8 a n l) (hcap : a = none → cap = 0) (hn : n ≤ 1000000) :
    Calls Tryd.prog 24 #[.slice a n cap] w fun e w' => ∃ v, e = .returned v ∧ w'.ownsRow w.heap.size 5 1 v l.length (l.map (Value.int .u8)) ∧ Below w.heap.size w w' := by
  obtain rfl := hA.hlen
  obtain ⟨i0, hi, hz0, hz1, hz2⟩ := info_parts infoU8
  have HE := hid (show (w.alloc (.cells #[] 5)).ownsRow w.heap.size 5 1 (.slice (some ⟨w.heap.size, 0, none⟩) 0 0) 0 [] from (Row.new w 5 []).owns (Nat.le_refl _) rfl (Nat.le_refl _) (by simp [maxLen]))
  have HB := hid (@bal w)
  have hbs : w.heap.size ≤ (w.alloc (.cells #[] 5)).heap.size := by simp
  go_enter Tryd.func24, Tryd.ntmps24
  cases a with
  | none =>
    obtain rfl : l = [] := by
      cases l with
      | nil => rfl
      | cons x l => obtain ⟨_, _, h, _⟩ := hA.some_of (by simp); cases h
    obtain rfl := hcap rfl
    go_wp2_with (at_builtin; go_must (refine wpList_append_own_none rfl _ _ 30 rfl w.heap.size 5 i0 1 Tryd.underlying30 hi (.slice (some ⟨w.heap.size, 0, none⟩) 0 0) 0 [] rfl HE.out rfl ?_))
    go_ret
    exact ⟨_, rfl, HE.out, HB.out _⟩
  | some ad =>
    have HN := hid ((hA.below' (bal (.cells #[] 5))).news)
    have HL := hid (show 0 + l.length ≤ maxLen by unfold maxLen; omega)
    have HL2 := hid (show (0 + l.length) * 1 ≤ 140737488355328 by omega)
    go_wp2_with (at_builtin; go_must (refine wpList_append_own _ rfl _ _ 30 rfl w.heap.size 5 i0 (.int .u8 0) 1 1 Tryd.underlying30 hi hz0 hz1 hz2 rfl (by decide) (.slice (some ⟨w.heap.size, 0, none⟩) 0 0) 0 [] rfl HE.out ad l.length cap (l.map (Value.int .u8)) rfl (by simp) HN.out (nums_one _ _) HL.out HL2.out hbs ?_; intro v2 w2 hown' hgrow _; have HO2 := hid hown'; have HB2 := hid ((HB.out (.cells #[] 5)).grown hgrow hbs (fun k hk => by cases hk; exact Nat.le_refl _)); clear hown' hgrow))
    go_ret
    exact ⟨_, rfl, by simpa using HO2.out, HB2.out⟩

/-- No frame is pointed to more often than K times. -/
def Bd (K : Int) (fs : List FR) : Prop := ∀ x ∈ fs, x.cnt ≤ K
theorem bd_mono {K : Int} {fs : List FR} (h : Bd K fs) : Bd (K + 1) fs := fun x hx => by have := h x hx; omega
theorem bd_set {K : Int} {fs : List FR} (h : Bd K fs) (f : Nat) (y : FR) (hy : y.cnt ≤ K + 1) : Bd (K + 1) (fs.set f y) := fun x hx => by
  rcases List.mem_or_eq_of_mem_set hx with hx | rfl
  · have := h x hx; omega
  · exact hy
theorem cnt_bd {K : Int} {fs : List FR} (h : Bd K fs) (h0 : 0 ≤ K) (f : Int) : cntF fs f ≤ K := by
  by_cases c : cntF fs f = 0
  · omega
  · obtain ⟨k, hk, _, e⟩ := cnt_is c
    rw [e]; exact h _ (List.getElem_mem hk)
theorem getD_bd {K : Int} {fs : List FR} (h : Bd K fs) (h0 : 0 ≤ K) (f : Nat) : (fs.getD f default).cnt ≤ K := by
  by_cases c : f < fs.length
  · rw [getF_at _ _ _ c]; exact h _ (List.getElem_mem c)
  · rw [List.getD_eq_getElem?_getD, List.getElem?_eq_none (by omega)]; exact h0
theorem take_bd {K : Int} {fs : List FR} (h : Bd K fs) (h0 : 0 ≤ K) : Bd (K + 1) (takeS fs) ∧ (takeS fs).length = fs.length := by
  unfold takeS
  split
  · exact ⟨bd_set h _ _ (by show (1 : Int) ≤ _; omega), List.length_set⟩
  · exact ⟨bd_mono h, rfl⟩
theorem up_bd {K : Int} {fs : List FR} (h : Bd K fs) (h0 : 0 ≤ K) (f : Int) : Bd (K + 1) (upS fs f) ∧ (upS fs f).length = fs.length := by
  unfold upS
  split
  · exact ⟨bd_mono h, rfl⟩
  · exact ⟨bd_set h _ _ (by have := cnt_bd h h0 f; show cntF fs f + 1 ≤ _; omega), List.length_set⟩
theorem down_bd {K : Int} {fs : List FR} (h : Bd K fs) (h0 : 0 ≤ K) (f : Int) : Bd (K + 1) (downS fs f) ∧ (downS fs f).length = fs.length := by
  unfold downS
  split
  · exact ⟨bd_mono h, rfl⟩
  · exact ⟨bd_set h _ _ (by have := cnt_bd h h0 f; show cntF fs f - 1 ≤ _; omega), List.length_set⟩
theorem store_bd {K : Int} {fs : List FR} (h : Bd K fs) (h0 : 0 ≤ K) (f off : Int) (l : List Int) : Bd (K + 1) (storeS fs f off l) ∧ (storeS fs f off l).length = fs.length := by
  unfold storeS
  split
  · exact ⟨bd_set h _ _ (by have := getD_bd h h0 f.toNat; show (fs.getD f.toNat default).cnt ≤ _; omega), List.length_set⟩
  · exact ⟨bd_mono h, rfl⟩
theorem copy_bd {K : Int} {fs : List FR} (h : Bd K fs) (h0 : 0 ≤ K) (f : Int) : Bd (K + 1) (copyS fs f) ∧ (copyS fs f).length = fs.length := by
  unfold copyS
  split
  · split
    · exact ⟨bd_set h _ _ (by show (1 : Int) ≤ _; omega), List.length_set⟩
    · exact ⟨bd_mono h, rfl⟩
  · exact ⟨bd_mono h, rfl⟩

abbrev opA (x : OP) : Array Value := #[.int .i64 x.kind, .int .i64 x.f, .int .i64 x.off, .int .i64 x.n, .slice x.ba x.bn x.bc]
theorem Row.o5 {w : World} {g : Nat} {E : TypeId} {x : OP} (h : Row w g E (opC x)) : w.cell? ⟨g, 0, none⟩ = some (.int .i64 x.kind) ∧ w.cell? ⟨g, 1, none⟩ = some (.int .i64 x.f) ∧ w.cell? ⟨g, 2, none⟩ = some (.int .i64 x.off) ∧ w.cell? ⟨g, 3, none⟩ = some (.int .i64 x.n) ∧ w.cell? ⟨g, 4, none⟩ = some (.slice x.ba x.bn x.bc) :=
  ⟨h.cell 0 (by simp [opC]), h.cell 1 (by simp [opC]), h.cell 2 (by simp [opC]), h.cell 3 (by simp [opC]), h.cell 4 (by simp [opC])⟩

/-- A pool that was played: what the laws want of it. -/
structure Played (w0 w : World) (n : Nat) (K : Int) (p g h : Nat) (fs : List FR) (ws : List Nat) : Prop where
  pl : Pl w p g h fs ws
  len : fs.length = n
  bd : Bd K fs
  pB : w0.heap.size ≤ p
  gB : w0.heap.size ≤ g
  hB : w0.heap.size ≤ h
  below : Below w0.heap.size w0 w
theorem Played.tb {w0 w : World} {n : Nat} {K : Int} {p g h : Nat} {fs : List FR} {ws : List Nat} (H : Played w0 w n K p g h fs ws) (hT : Tb w0) : Tb w := hT.below H.below
theorem Played.step {w0 w w2 : World} {n : Nat} {K K2 : Int} {p g h : Nat} {fs fs2 : List FR} {ws ws2 : List Nat} (H : Played w0 w n K p g h fs ws) (hp : Pl w2 p g h fs2 ws2) (hx : Ex w w2 g h) (hb : Bd K2 fs2 ∧ fs2.length = fs.length) : Played w0 w2 n K2 p g h fs2 ws2 :=
  ⟨hp, hb.2.trans H.len, hb.1, H.pB, H.gB, H.hB, hx.below H.below H.gB H.hB H.below.size⟩
theorem Played.still {w0 w w2 : World} {n : Nat} {K : Int} {p g h : Nat} {fs : List FR} {ws : List Nat} (H : Played w0 w n K p g h fs ws) (hb : Below w.heap.size w w2) : Played w0 w2 n K p g h fs ws :=
  ⟨H.pl.below hb, H.len, H.bd, H.pB, H.gB, H.hB, bthen H.below hb⟩
theorem Played.max {w0 w : World} {n : Nat} {K : Int} {p g h : Nat} {fs : List FR} {ws : List Nat} (H : Played w0 w n K p g h fs ws) (hK : K < 9223372036854775807) : ∀ x ∈ fs, x.cnt < 9223372036854775807 := fun x hx => by have := H.bd x hx; omega

end Go.Proofs.YtllkeeeajlgkpaaDoor
