/- hostellaw07.vast, twin, played. -/
import Derived.Test.YthelfpminmbclaaDoorJB
import Derived.Deep.RegionHeld3
namespace Go.Proofs.YthelfpminmbclaaDoor
open Go.RowKit Go.Sort

def VastPost (len : Nat) (f : Nat → OP) (w : World) (e : Ending) (w' : World) : Prop := ∃ b, e = .returned (.bool b) ∧ (b = false → len ≤ 300 ∧ ∀ i, i < len → (f i).bn ≤ 16384) ∧ w = w'
theorem vast_any (a : Option Addr) (len cap : Nat) (f : Nat → OP) (w : World) (hA : OpsIn w a len f) (hm : len ≤ 9223372036854775807) :
    Calls Tryd.prog 13 #[.slice a len cap] w (VastPost len f w) := by
  have HA := hid hA
  clear hA
  by_cases h3 : 300 < len
  · have d0 : decide ((300 : Int) < (len : Int)) = true := by simp; omega
    have d0n : decide (300 < len) = true := by simp; omega
    go_enter Tryd.func13, Tryd.ntmps13
    go_wp2_with fail
    go_ret
    exact ⟨true, rfl, (fun h => by cases h), rfl⟩
  · have d0 : decide ((300 : Int) < (len : Int)) = false := by simp; omega
    have d0n : decide (300 < len) = false := by simp; omega
    go_enter Tryd.func13, Tryd.ntmps13
    go_wp2_with fail
    go_loopw [3] (fun i wr => ∃ k : Nat, k ≤ len ∧ i = .int .i64 k ∧ (∀ i, i < k → (f i).bn ≤ 16384) ∧ wr = w) (fun i _ => len - (intOf i).toNat)
    case atStart => exact ⟨0, Nat.zero_le _, rfl, fun i hi => by omega, rfl⟩
    case round =>
      obtain ⟨k, hk, rfl, hz, rfl⟩ := hrel
      have HZ := hid hz
      clear hz
      by_cases hlt : k < len
      · have d1 : decide ((k : Int) < (len : Int)) = true := by simp; omega
        have d1n : decide (k < len) = true := by simp; omega
        obtain ⟨hok, b, off, rfl, h0, h1, h2, h4, h5⟩ := HA.out k hlt
        have hlb := World.block_lt_of_cell? _ _ h0
        have hmm : maxLen = 9223372036854775807 := rfl
        have hbn : (f k).bn ≤ 9223372036854775807 := by have := hok.le; have := hok.mx; omega
        clear hok
        have HFK := hid (rfl : f k = f k)
        generalize hx : f k = x at *
        have HX := hid hx
        clear hx hmm
        by_cases c : x.bn ≤ 16384
        · have d2 : decide ((16384 : Int) < (x.bn : Int)) = false := by simp; omega
          have d2n : decide (16384 < x.bn) = false := by simp; omega
          have ez : (0 : Int) ≤ (k : Int) := by omega
          have eb : (k : Int) < (len : Int) := by omega
          go_wp2_with fail
          go_roundw
          case rel => exact ⟨k + 1, by omega, by go_num, fun i hi => by
            by_cases e : i < k
            · exact HZ.out i e
            · obtain rfl : i = k := by omega
              rw [HX.out]; exact c, trivial⟩
          case measure => simp [intOf]; omega
        · have d2 : decide ((16384 : Int) < (x.bn : Int)) = true := by simp; omega
          have d2n : decide (16384 < x.bn) = true := by simp; omega
          have ez : (0 : Int) ≤ (k : Int) := by omega
          have eb : (k : Int) < (len : Int) := by omega
          go_wp2_with fail
          go_ret
          exact ⟨true, rfl, (fun h => by cases h), rfl⟩
      · have d1 : decide ((k : Int) < (len : Int)) = false := by simp; omega
        have d1n : decide (k < len) = false := by simp; omega
        go_wp2_with fail
        go_ret
        exact ⟨false, rfl, (fun _ => ⟨by omega, fun i hi => HZ.out i (by omega)⟩), rfl⟩

theorem twin_any (a : Option Addr) (n cap : Nat) (l : List Int) (w : World) (hA : Nums w .u8 a n l) (hcap : a = none → cap = 0) (hn : n ≤ 1000000) :
    Calls Tryd.prog 37 #[.slice a n cap] w fun e w' => ∃ v, e = .returned v ∧ w'.ownsRow w.heap.size 5 1 v l.length (l.map (Value.int .u8)) ∧ Below w.heap.size w w' := by
  obtain rfl := hA.hlen
  obtain ⟨i0, hi, hz0, hz1, hz2⟩ := info_parts infoU8
  have HE := hid (show (w.alloc (.cells #[] 5)).ownsRow w.heap.size 5 1 (.slice (some ⟨w.heap.size, 0, none⟩) 0 0) 0 [] from (Row.new w 5 []).owns (Nat.le_refl _) rfl (Nat.le_refl _) (by simp [maxLen]))
  have HB := hid (@bal w)
  have hbs : w.heap.size ≤ (w.alloc (.cells #[] 5)).heap.size := by simp
  go_enter Tryd.func37, Tryd.ntmps37
  cases a with
  | none =>
    obtain rfl : l = [] := by
      cases l with
      | nil => rfl
      | cons x l => obtain ⟨_, _, h, _⟩ := hA.some_of (by simp); cases h
    obtain rfl := hcap rfl
    go_wp2_with (at_builtin; go_must (refine wpList_append_own_none rfl _ _ 32 rfl w.heap.size 5 i0 1 Tryd.underlying32 hi (.slice (some ⟨w.heap.size, 0, none⟩) 0 0) 0 [] rfl HE.out rfl ?_))
    go_ret
    exact ⟨_, rfl, HE.out, HB.out _⟩
  | some ad =>
    have HN := hid ((hA.below' (bal (.cells #[] 5))).news)
    have HL := hid (show 0 + l.length ≤ maxLen by unfold maxLen; omega)
    have HL2 := hid (show (0 + l.length) * 1 ≤ 140737488355328 by omega)
    go_wp2_with (at_builtin; go_must (refine wpList_append_own _ rfl _ _ 32 rfl w.heap.size 5 i0 (.int .u8 0) 1 1 Tryd.underlying32 hi hz0 hz1 hz2 rfl (by decide) (.slice (some ⟨w.heap.size, 0, none⟩) 0 0) 0 [] rfl HE.out ad l.length cap (l.map (Value.int .u8)) rfl (by simp) HN.out (nums_one _ _) HL.out HL2.out hbs ?_; intro v2 w2 hown' hgrow _; have HO2 := hid hown'; have HB2 := hid ((HB.out (.cells #[] 5)).grown hgrow hbs (fun k hk => by cases hk; exact Nat.le_refl _)); clear hown' hgrow))
    go_ret
    exact ⟨_, rfl, by simpa using HO2.out, HB2.out⟩

/-- No frame is pointed to more often than K times. -/
def Bd (K : Int) (fs : List FR) : Prop := ∀ x ∈ fs, x.cnt ≤ K
theorem bd_mono {K : Int} {fs : List FR} (h : Bd K fs) : Bd (K + 1) fs := fun x hx => by have := h x hx; omega
theorem bd_set {K : Int} {fs : List FR} (h : Bd K fs) (f : Nat) (y : FR) (hy : y.cnt ≤ K + 1) : Bd (K + 1) (fs.set f y) := fun x hx => by
  rcases List.mem_or_eq_of_mem_set hx with hx | rfl
  · have := h x hx; omega
  · exact hy
theorem cnt_bd {K : Int} {fs : List FR} (h : Bd K fs) (h0 : 0 ≤ K) (f : Int) : cntF fs f ≤ K := by
  by_cases c : cntF fs f = 0
  · omega
  · obtain ⟨k, hk, _, e⟩ := cnt_is c
    rw [e]; exact h _ (List.getElem_mem hk)
theorem getD_bd {K : Int} {fs : List FR} (h : Bd K fs) (h0 : 0 ≤ K) (f : Nat) : (fs.getD f default).cnt ≤ K := by
  by_cases c : f < fs.length
  · rw [getF_at _ _ _ c]; exact h _ (List.getElem_mem c)
  · rw [List.getD_eq_getElem?_getD, List.getElem?_eq_none (by omega)]; exact h0
theorem take_bd {K : Int} {fs : List FR} (h : Bd K fs) (h0 : 0 ≤ K) : Bd (K + 1) (takeS fs) ∧ (takeS fs).length = fs.length := by
  unfold takeS
  split
  · exact ⟨bd_set h _ _ (by show (1 : Int) ≤ _; omega), List.length_set⟩
  · exact ⟨bd_mono h, rfl⟩
theorem up_bd {K : Int} {fs : List FR} (h : Bd K fs) (h0 : 0 ≤ K) (f : Int) : Bd (K + 1) (upS fs f) ∧ (upS fs f).length = fs.length := by
  unfold upS
  split
  · exact ⟨bd_mono h, rfl⟩
  · exact ⟨bd_set h _ _ (by have := cnt_bd h h0 f; show cntF fs f + 1 ≤ _; omega), List.length_set⟩
theorem down_bd {K : Int} {fs : List FR} (h : Bd K fs) (h0 : 0 ≤ K) (f : Int) : Bd (K + 1) (downS fs f) ∧ (downS fs f).length = fs.length := by
  unfold downS
  split
  · exact ⟨bd_mono h, rfl⟩
  · exact ⟨bd_set h _ _ (by have := cnt_bd h h0 f; show cntF fs f - 1 ≤ _; omega), List.length_set⟩
theorem store_bd {K : Int} {fs : List FR} (h : Bd K fs) (h0 : 0 ≤ K) (f off : Int) (l : List Int) : Bd (K + 1) (storeS fs f off l) ∧ (storeS fs f off l).length = fs.length := by
  unfold storeS
  split
  · exact ⟨bd_set h _ _ (by have := getD_bd h h0 f.toNat; show (fs.getD f.toNat default).cnt ≤ _; omega), List.length_set⟩
  · exact ⟨bd_mono h, rfl⟩
theorem copy_bd {K : Int} {fs : List FR} (h : Bd K fs) (h0 : 0 ≤ K) (f : Int) : Bd (K + 1) (copyS fs f) ∧ (copyS fs f).length = fs.length := by
  unfold copyS
  split
  · split
    · exact ⟨bd_set h _ _ (by show (1 : Int) ≤ _; omega), List.length_set⟩
    · exact ⟨bd_mono h, rfl⟩
  · exact ⟨bd_mono h, rfl⟩

abbrev opA (x : OP) : Array Value := #[.int .i64 x.kind, .int .i64 x.f, .int .i64 x.off, .int .i64 x.n, .slice x.ba x.bn x.bc]
theorem Row.o5 {w : World} {g : Nat} {E : TypeId} {x : OP} (h : Row w g E (opC x)) : w.cell? ⟨g, 0, none⟩ = some (.int .i64 x.kind) ∧ w.cell? ⟨g, 1, none⟩ = some (.int .i64 x.f) ∧ w.cell? ⟨g, 2, none⟩ = some (.int .i64 x.off) ∧ w.cell? ⟨g, 3, none⟩ = some (.int .i64 x.n) ∧ w.cell? ⟨g, 4, none⟩ = some (.slice x.ba x.bn x.bc) :=
  ⟨h.cell 0 (by simp [opC]), h.cell 1 (by simp [opC]), h.cell 2 (by simp [opC]), h.cell 3 (by simp [opC]), h.cell 4 (by simp [opC])⟩

/-- A pool that was played: what the laws want of it. -/
structure Played (w0 w : World) (n : Nat) (K : Int) (p g h : Nat) (fs : List FR) (ws : List Nat) : Prop where
  pl : Pl w p g h fs ws
  len : fs.length = n
  bd : Bd K fs
  pB : w0.heap.size ≤ p
  gB : w0.heap.size ≤ g
  hB : w0.heap.size ≤ h
  below : Below w0.heap.size w0 w
theorem Played.tb {w0 w : World} {n : Nat} {K : Int} {p g h : Nat} {fs : List FR} {ws : List Nat} (H : Played w0 w n K p g h fs ws) (hT : Tb w0) : Tb w := hT.below H.below
theorem Played.step {w0 w w2 : World} {n : Nat} {K K2 : Int} {p g h : Nat} {fs fs2 : List FR} {ws ws2 : List Nat} (H : Played w0 w n K p g h fs ws) (hp : Pl w2 p g h fs2 ws2) (hx : Ex w w2 g h) (hb : Bd K2 fs2 ∧ fs2.length = fs.length) : Played w0 w2 n K2 p g h fs2 ws2 :=
  ⟨hp, hb.2.trans H.len, hb.1, H.pB, H.gB, H.hB, hx.below H.below H.gB H.hB H.below.size⟩
theorem Played.still {w0 w w2 : World} {n : Nat} {K : Int} {p g h : Nat} {fs : List FR} {ws : List Nat} (H : Played w0 w n K p g h fs ws) (hb : Below w.heap.size w w2) : Played w0 w2 n K p g h fs ws :=
  ⟨H.pl.below hb, H.len, H.bd, H.pB, H.gB, H.hB, bthen H.below hb⟩
theorem Played.max {w0 w : World} {n : Nat} {K : Int} {p g h : Nat} {fs : List FR} {ws : List Nat} (H : Played w0 w n K p g h fs ws) (hK : K < 9223372036854775807) : ∀ x ∈ fs, x.cnt < 9223372036854775807 := fun x hx => by have := H.bd x hx; omega

set_option maxRecDepth 100000 in
set_option maxHeartbeats 4000000 in
theorem played_any (n : Nat) (a : Option Addr) (len cap : Nat) (f : Nat → OP) (w : World) (hT : Tb w) (hA : OpsIn w a len f) (h1 : 1 ≤ n) (h2 : n ≤ 1024) (h3 : len ≤ 300) (hbn : ∀ i, i < len → (f i).bn ≤ 16384) :
    Calls Tryd.prog 26 #[.int .i64 (n : Int), .slice a len cap] w fun e w' => ∃ p g h fs ws, e = .returned (.tuple #[.pointer (some ⟨p, 0, none⟩), .bool true]) ∧ Played w w' n 300 p g h fs ws := by
  have HA := hid hA
  have HT := hid hT
  have HBN := hid hbn
  clear hA hT hbn
  go_enter Tryd.func26, Tryd.ntmps26
  go_wp2_with fail
  refine (new_any n w h1 h2).mono ?_
  rintro e' w1 ⟨p, g, h, ws0, rfl, hpl, hp, hg, hh, hb⟩
  have HP0 := hid (show Played w w1 n ((0 : Nat) : Int) p g h (List.replicate n fr0) ws0 from ⟨hpl, List.length_replicate, (fun x hx => by rw [List.eq_of_mem_replicate hx]; exact Int.le_refl _), hp, hg, hh, hb⟩)
  clear hpl hb
  go_wp2_with fail
  go_loopw [8] (fun i wr => ∃ (k : Nat) (fs : List FR) (ws : List Nat), k ≤ len ∧ i = .int .i64 k ∧ Played w wr n (k : Int) p g h fs ws) (fun i _ => len - (intOf i).toNat)
  case atStart => exact ⟨0, _, _, Nat.zero_le _, rfl, HP0.out⟩
  case round =>
    obtain ⟨k, fs, ws, hk, rfl, hP⟩ := hrel
    have HP := hid hP
    by_cases hlt : k < len
    · have d1 : decide ((k : Int) < (len : Int)) = true := by simp; omega
      have d1n : decide (k < len) = true := by simp; omega
      have hin := HA.out.below hP.below
      obtain ⟨hok, b9, off, rfl, y0, y1, y2, y3, y4⟩ := hin k hlt
      have hlb9 := World.block_lt_of_cell? _ _ y0
      have hbn := HBN.out k hlt
      have HOK := hid hok
      clear hok hin hP
      generalize f k = x at *
      have ez : (0 : Int) ≤ (k : Int) := by omega
      have eb : (k : Int) < (len : Int) := by omega
      have hK0 : (0 : Int) ≤ (k : Int) := by omega
      have HW1 := hid (HP.out.still (bal (.cells (opA x) 34)))
      have HO1 := hid (show Row (wr.alloc (.cells (opA x) 34)) wr.heap.size 34 (opC x) from Row.new wr 34 (opC x))
      have HOK1 := hid (HOK.out.below (bal (.cells (opA x) 34)))
      obtain ⟨x0, x1, x2, x3, x4⟩ := HO1.out.o5
      have hlx := HO1.out.lt
      have HMX := hid (HP.out.max (by omega))
      by_cases hd0 : x.kind = 0
      · rw [hd0] at x0
        clear hd0
        go_wp2_with fail
        refine (take_any p g h fs ws _ HW1.out.pl (HW1.out.tb HT.out)).mono ?_
        rintro e' w2 ⟨rfl, ⟨ws2, hpl⟩, hx⟩
        have HF := hid (HW1.out.step hpl hx (take_bd HP.out.bd hK0))
        clear hpl hx
        go_wp2_with fail
        go_roundw
        case rel => exact ⟨k + 1, _, _, by omega, by go_num, HF.out⟩
        case measure => simp [intOf]; omega
      · by_cases hd1 : x.kind = 1
        · rw [hd1] at x0
          clear hd1
          clear hd0
          go_wp2_with fail
          refine (up_any p g h fs ws x.f _ HW1.out.pl HMX.out).mono ?_
          rintro e' w2 ⟨rfl, hpl, hx⟩
          have HF := hid (HW1.out.step hpl hx (up_bd HP.out.bd hK0 x.f))
          clear hpl hx
          go_wp2_with fail
          go_roundw
          case rel => exact ⟨k + 1, _, _, by omega, by go_num, HF.out⟩
          case measure => simp [intOf]; omega
        · by_cases hd2 : x.kind = 2
          · rw [hd2] at x0
            clear hd2
            clear hd0
            clear hd1
            go_wp2_with fail
            refine (down_any p g h fs ws x.f _ HW1.out.pl HMX.out).mono ?_
            rintro e' w2 ⟨rfl, ⟨ws2, hpl⟩, hx⟩
            have HF := hid (HW1.out.step hpl hx (down_bd HP.out.bd hK0 x.f))
            clear hpl hx
            go_wp2_with fail
            go_roundw
            case rel => exact ⟨k + 1, _, _, by omega, by go_num, HF.out⟩
            case measure => simp [intOf]; omega
          · by_cases hd4 : x.kind = 4
            · rw [hd4] at x0
              clear hd4
              clear hd0
              clear hd1
              clear hd2
              have hgs := HW1.out.pl.frames.lt
              have hhs := HW1.out.pl.words.lt
              have hog : wr.heap.size ≠ g := by have := HP.out.pl.frames.lt; omega
              have hoh : wr.heap.size ≠ h := by have := HP.out.pl.words.lt; omega
              go_wp2_with fail
              clear x0 x1 x2 x3 x4
              generalize (wr.alloc (.cells #[.int .i64 x.kind, .int .i64 x.f, .int .i64 x.off, .int .i64 x.n, .slice x.ba x.bn x.bc] 34)) = W at *
              have y0 : ∀ w', Row w' wr.heap.size 34 (opC x) → w'.cell? ⟨wr.heap.size, 1, none⟩ = some (.int .i64 x.f) := fun w' h => h.o5.2.1
              have y1 : ∀ w', Row w' wr.heap.size 34 (opC x) → w'.cell? ⟨wr.heap.size, 2, none⟩ = some (.int .i64 x.off) := fun w' h => h.o5.2.2.1
              have y2 : ∀ w', Row w' wr.heap.size 34 (opC x) → w'.cell? ⟨wr.heap.size, 4, none⟩ = some (.slice x.ba x.bn x.bc) := fun w' h => h.o5.2.2.2.2
              have HOD := hid HO1.out.drew
              have HWD := hid (HW1.out.still (w2 := W.drew) (bdN (Below.refl _ W) 1))
              have HTW := hid (twin_any x.ba x.bn x.bc x.bl W.drew (HOK1.out.below (w' := W.drew) (bdN (Below.refl _ W) 1)).by8 HOK1.out.nil (by omega))
              go_region_held3 (fun w' => Row w' wr.heap.size 34 (opC x)) (first | exact HOD.out | exact HOT.out | exact HOS.out) (first | (go_at_call 37; refine ((HTW.out).mono ?_); rintro e' wx ⟨v2, rfl, ho2, hbx⟩; have HWX := hid (HWD.out.still hbx); have HOT := hid (HOD.out.below hbx HOD.out.lt); obtain ⟨ta, tc, rfl, hnum⟩ := own_nums ho2; have HNT := hid hnum; clear ho2 hnum hbx) | (go_at_call 20; go_must (refine ((store_any p g h fs ws x.f x.off ta x.bl.length tc x.bl wx HWX.out.pl HNT.out (by rw [HOK1.out.by8.hlen]; omega)).mono ?_)); rintro e' wy ⟨rfl, hpl, hx⟩; have HF := hid (HWX.out.step hpl hx (store_bd HP.out.bd hK0 x.f x.off x.bl)); have HOS := hid (hx.row HOT.out hog hoh); clear hpl hx))
              go_wp2_with fail
              go_roundw
              case rel => exact ⟨k + 1, _, _, by omega, by go_num, HF.out⟩
              case measure => simp [intOf]; omega
            · by_cases hd5 : x.kind = 5
              · rw [hd5] at x0
                clear hd5
                clear hd0
                clear hd1
                clear hd2
                clear hd4
                go_wp2_with fail
                refine (copy_any p g h fs ws x.f _ HW1.out.pl (HW1.out.tb HT.out)).mono ?_
                rintro e' w2 ⟨rfl, ⟨ws2, hpl⟩, hx⟩
                have HF := hid (HW1.out.step hpl hx (copy_bd HP.out.bd hK0 x.f))
                clear hpl hx
                go_wp2_with fail
                go_roundw
                case rel => exact ⟨k + 1, _, _, by omega, by go_num, HF.out⟩
                case measure => simp [intOf]; omega
              · have q0 : (x.kind == 0) = false := by simpa using hd0
                have q1 : (x.kind == 1) = false := by simpa using hd1
                have q2 : (x.kind == 2) = false := by simpa using hd2
                have q4 : (x.kind == 4) = false := by simpa using hd4
                have q5 : (x.kind == 5) = false := by simpa using hd5
                clear hd0 hd1 hd2 hd4 hd5
                have HF := hid (HW1.out.step HW1.out.pl (Ex.refl _ _ _) ⟨bd_mono HP.out.bd, rfl⟩)
                go_wp2_with fail
                go_roundw
                case rel => exact ⟨k + 1, _, _, by omega, by go_num, HF.out⟩
                case measure => simp [intOf]; omega
    · have d1 : decide ((k : Int) < (len : Int)) = false := by simp; omega
      have d1n : decide (k < len) = false := by simp; omega
      obtain rfl : k = len := by omega
      clear hP
      go_wp2_with fail
      go_ret2
      refine ⟨p, g, h, fs, ws, rfl, HP.out.pl, HP.out.len, fun x hx => ?_, HP.out.pB, HP.out.gB, HP.out.hB, HP.out.below⟩
      have := HP.out.bd x hx
      omega
end Go.Proofs.YthelfpminmbclaaDoor
