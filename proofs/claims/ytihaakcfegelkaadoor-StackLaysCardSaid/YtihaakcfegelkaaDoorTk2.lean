
/- stack's reader: the addresses of arguments and of the environment. -/
import Derived.Test.YtihaakcfegelkaaDoorTk1
import Derived.Test.YtihaakcfegelkaaDoorX1
namespace Go.Proofs.YtihaakcfegelkaaDoor
open Go.RowKit Go.Sort
attribute [local go_sem] Oper.semAt_some

/-- The reader at r over bytes that lie below W0's end; it reads at p. -/
structure RD (W0 w : World) (r : Nat) (a : Option Addr) (len cap sp : Nat) (l : List UInt8) (p : Nat) : Prop where
  sz : Sizes W0
  byt : Byt W0 a len l
  small : len ≤ 140737488351232
  low : Below W0.heap.size W0 w
  hr : W0.heap.size ≤ r
  row : Row w r 65 (rdC a len cap sp p)
theorem RD.bytw {W0 w : World} {r : Nat} {a : Option Addr} {len cap sp p : Nat} {l : List UInt8} (h : RD W0 w r a len cap sp l p) : Byt w a len l := h.byt.below' h.low
theorem RD.szw {W0 w : World} {r : Nat} {a : Option Addr} {len cap sp p : Nat} {l : List UInt8} (h : RD W0 w r a len cap sp l p) : Sizes w := h.sz.below h.low
theorem RD.step {W0 w w' : World} {r : Nat} {a : Option Addr} {len cap sp p q : Nat} {l : List UInt8} (h : RD W0 w r a len cap sp l p) (x : X1 w w' r) (hrow : Row w' r 65 (rdC a len cap sp q)) : RD W0 w' r a len cap sp l q :=
  ⟨h.sz, h.byt, h.small, h.low.trans (x.below h.hr h.low.size), h.hr, hrow⟩
/-- A world in which the reader stands as it did. -/
theorem RD.still {W0 w w' : World} {r : Nat} {a : Option Addr} {len cap sp p : Nat} {l : List UInt8} (h : RD W0 w r a len cap sp l p) (hb : Below w.heap.size w w') : RD W0 w' r a len cap sp l p :=
  ⟨h.sz, h.byt, h.small, h.low.trans (hb.mono h.low.size), h.hr, h.row.below hb h.row.lt⟩
theorem RD.stillB {W0 w w' : World} {r B : Nat} {a : Option Addr} {len cap sp p : Nat} {l : List UInt8} (h : RD W0 w r a len cap sp l p) (hb : Below B w w') (hr : r < B) : RD W0 w' r a len cap sp l p :=
  ⟨h.sz, h.byt, h.small, h.low.trans (hb.mono (by have := h.hr; omega)), h.hr, h.row.below hb hr⟩

/-- Behind an append to a list that does not lie where the reader does. -/
theorem RD.app {W0 w w' : World} {r : Nat} {a : Option Addr} {len cap sp p base e size n : Nat} {o : Obj} {v : Value} {xs : List Value} {l : List UInt8} (h : RD W0 w r a len cap sp l p) (hown : (w.alloc o).ownsRow base e size v n xs) (hT : 65 ≠ e) (hg : (w.alloc o).grownBy w' v.ownBlock) (hb : W0.heap.size ≤ base) : RD W0 w' r a len cap sp l p :=
  ⟨h.sz, h.byt, h.small, (h.low.alloc h.low.size o).grown hg (by rw [World.size_alloc]; have := h.low.size; omega) (fun k hk => Nat.le_trans hb (hown.lt k hk).1), h.hr, row_grown (h.row.alloc o) hown hT hg⟩

theorem nextR_no (W0 w : World) (r : Nat) (a : Option Addr) (len cap sp p : Nat) (l : List UInt8) (h : RD W0 w r a len cap sp l p) (hp : l.length < p + 8) :
    Calls Tryd.prog 42 #[.pointer (some ⟨r, 0, none⟩)] w fun e w' => e = .returned (.tuple #[.int .u64 0, .int .i64 25]) ∧ Below w.heap.size w w' := by
  have hl := h.byt.hlen
  have hs := h.small
  exact (next_no r a len cap sp p l w h.szw (by omega) h.bytw h.row (by omega)).mono (fun e w' ⟨h1, d, h2⟩ => ⟨h1, by rw [h2]; exact bdN (Below.refl _ _) d⟩)
theorem nextR_yes (W0 w : World) (r : Nat) (a : Option Addr) (len cap sp p : Nat) (l : List UInt8) (h : RD W0 w r a len cap sp l p) (hp : p + 8 ≤ l.length) :
    Calls Tryd.prog 42 #[.pointer (some ⟨r, 0, none⟩)] w fun e w' => e = .returned (.tuple #[.int .u64 (n8 l p : Int), .int .i64 0]) ∧ X1 w w' r ∧ RD W0 w' r a len cap sp l (p + 8) := by
  have hl := h.byt.hlen
  have hs := h.small
  refine (next_yes r a len cap sp p l w h.szw (by omega) h.bytw h.row (by omega)).mono (fun e w' ⟨h1, d, h2⟩ => ?_)
  have hx : X1 w w' r := by rw [h2]; exact ((X1.refl w r).drewN d).set 2 _
  refine ⟨h1, hx, h.step hx ?_⟩
  rw [h2]
  exact (h.row.drewN d).rdSet (p + 8)

abbrev u64s (l : List Nat) : List Value := l.map fun x : Nat => Value.int .u64 ((x : Nat) : Int)
abbrev OwnU (w : World) (base : Nat) (v : Value) (l : List Nat) : Prop := w.ownsRow base 30 1 v l.length (u64s l)
theorem u64s_snoc (l : List Nat) (x : Nat) : u64s (l ++ [x]) = u64s l ++ [.int .u64 (x : Int)] := by simp [u64s]
theorem ownU_snoc {w : World} {base : Nat} {v : Value} {l m : List Nat} {x : Nat} {n : Nat} (h : w.ownsRow base 30 1 v n (u64s l ++ [Value.int .u64 (x : Int)])) (hm : m = l ++ [x]) : OwnU w base v m := by
  subst hm; show w.ownsRow _ _ _ _ (l ++ [x]).length (u64s (l ++ [x])); rw [u64s_snoc]; exact own_ext h (by have := h.1; simp [u64s] at this ⊢; omega) rfl
theorem u64s_len (l : List Nat) : (u64s l).length = l.length := by simp [u64s]
theorem infoU64 : (Tryd.prog.info? 30).map (fun i => (i.zero, i.size, i.bytes)) = some (some (.int .u64 0), 1, 8) := by kernel_rfl
theorem ownU_nil (w : World) (base : Nat) : OwnU w base (.slice none 0 0) [] := World.ownsRow_nil _ _ _ _
theorem ownU_ne {w w2 : World} {base r : Nat} {v : Value} {l : List Nat} {cs : List Value} (h : OwnU w base v l) (hr : Row w r 65 cs) : some r ≠ v.ownBlock := own_ne_row h hr (by decide)
theorem one_u64 (x : Int) : ∀ u ∈ [Value.int .u64 x], u.oneCell' = true := by intro u hu; rw [List.mem_singleton.1 hu]; rfl

def ArgsPost (W0 w : World) (r : Nat) (a : Option Addr) (len cap sp : Nat) (l : List UInt8) (e : Ending) (w' : World) : Prop :=
  ∃ v p', e = .returned (.tuple #[v, .int .i64 (argsR l).1]) ∧ OwnU w' w.heap.size v (argsR l).2.1 ∧ X1 w w' r ∧ RD W0 w' r a len cap sp l p' ∧ ((argsR l).1 = 0 → p' = (argsR l).2.2)
theorem argsP_no {W0 w w' : World} {r : Nat} {a : Option Addr} {len cap sp p er : Nat} {l : List UInt8} {q : Nat} (h : argsR l = ((er : Int), [], q)) (he : (er : Int) ≠ 0) (hx : X1 w w' r) (hd : RD W0 w' r a len cap sp l p) : ArgsPost W0 w r a len cap sp l (.returned (.tuple #[.slice none 0 0, .int .i64 (er : Int)])) w' := by
  refine ⟨.slice none 0 0, p, by rw [h], by rw [h]; exact ownU_nil _ _, hx, hd, fun h0 => ?_⟩
  rw [h] at h0
  exact absurd h0 he
theorem argsP_yes {W0 w w' : World} {r : Nat} {a : Option Addr} {len cap sp p q : Nat} {l : List UInt8} {v : Value} {ys : List Nat} (h : argsR l = (0, ys, q)) (ho : OwnU w' w.heap.size v ys) (hx : X1 w w' r) (hd : RD W0 w' r a len cap sp l p) (hp : p = q) : ArgsPost W0 w r a len cap sp l (.returned (.tuple #[v, .int .i64 0])) w' :=
  ⟨v, p, by rw [h], by rw [h]; exact ho, hx, hd, fun _ => by rw [h]; exact hp⟩
def lenV : Value → Nat
  | .slice _ n _ => n
  | _ => 0

set_option maxRecDepth 100000 in
set_option maxHeartbeats 4000000 in
theorem arguments_any (W0 w : World) (r : Nat) (a : Option Addr) (len cap sp : Nat) (l : List UInt8) (h : RD W0 w r a len cap sp l 0) :
    Calls Tryd.prog 31 #[.pointer (some ⟨r, 0, none⟩)] w (ArgsPost W0 w r a len cap sp l) := by
  have HD := hid h
  have HL := hid h.byt.hlen
  clear h
  by_cases c1 : l.length < 8
  · have HE := hid (show argsR l = (((25 : Nat) : Int), [], 0) by unfold argsR; rw [if_pos c1]; rfl)
    have C0 := hid (show l.length < 0 + 8 by omega)
    clear c1
    go_enter Tryd.func31, Tryd.ntmps31
    go_wp2_with fail
    refine (nextR_no W0 w r a len cap sp 0 l HD.out C0.out).mono ?_
    rintro e' w1 ⟨rfl, hb⟩
    have HB := hid hb
    clear hb
    go_wp2_with fail
    go_ret2
    exact argsP_no HE.out (by decide) (X1.of r HB.out) (HD.out.still HB.out)
  · have HN := hid (n8_lt l 0 (by omega))
    go_enter Tryd.func31, Tryd.ntmps31
    go_wp2_with fail
    refine (nextR_yes W0 w r a len cap sp 0 l HD.out (by omega)).mono ?_
    rintro e' w1 ⟨rfl, hx, hd⟩
    have HX1 := hid hx
    have HD1 := hid hd
    clear hx hd
    obtain ⟨n, hn⟩ : ∃ n, n = n8 l 0 := ⟨_, rfl⟩
    have HNN := hid hn
    rw [← hn]
    clear hn
    by_cases c2 : 32 < n
    · have HE := hid (show argsR l = (((12 : Nat) : Int), [], 8) by unfold argsR; rw [if_neg c1, ← HNN.out, if_pos c2]; rfl)
      clear c1
      have d2 : 32 < (n : Int) := by omega
      clear c2
      go_wp2_with fail
      go_ret2
      exact argsP_no HE.out (by decide) HX1.out HD1.out
    · have C1 := hid c1
      have C2 := hid c2
      have d2 : ¬ 32 < (n : Int) := by omega
      clear c1 c2
      go_wp2_with fail
      clear d2
      go_loopw [6, 21] (fun v i wr => ∃ k : Nat, k ≤ n ∧ i = .int .u64 k ∧ OwnU wr w.heap.size v (ns8 l 8 k) ∧ X1 w wr r ∧ RD W0 wr r a len cap sp l (8 + 8 * k)) (fun _ i _ => n - (intOf i).toNat)
      case atStart => exact ⟨0, Nat.zero_le _, rfl, ownU_nil _ _, HX1.out, HD1.out⟩
      case round =>
        obtain ⟨k, hk, rfl, hown, hx, hd⟩ := hrel
        have HO := hid hown
        have HX := hid hx
        have HDR := hid hd
        clear hown hx hd
        by_cases hlt : k < n
        · have d1 : decide ((k : Int) < (n : Int)) = true := by simp; omega
          by_cases hin : l.length < 16 + 8 * k
          · have HE := hid (show argsR l = (((25 : Nat) : Int), [], 8) by unfold argsR; rw [if_neg C1.out, ← HNN.out, if_neg C2.out, if_pos (by omega)]; rfl)
            go_wp2_with fail
            refine (nextR_no W0 wr r a len cap sp (8 + 8 * k) l HDR.out (by omega)).mono ?_
            rintro e' w2 ⟨rfl, hb⟩
            have HB := hid hb
            clear hb hin
            go_wp2_with fail
            go_ret2
            exact argsP_no HE.out (by decide) (HX.out.trans (X1.of r HB.out)) (HDR.out.still HB.out)
          · go_wp2_with fail
            refine (nextR_yes W0 wr r a len cap sp (8 + 8 * k) l HDR.out (by omega)).mono ?_
            rintro e' w2 ⟨rfl, hx, hd⟩
            have HX2 := hid hx
            have HD2 := hid hd
            have HO2 := hid (hx.own HO.out (ownU_ne HO.out HDR.out.row (w2 := w)))
            have HSN := hid (ns8_snoc l 8 k)
            have HZ0 := hid HD.out.low.size
            have HO3 := hid (fun o => own_below HO2.out (@bal w2 o))
            have HZ2 := hid (HX.out.trans hx).size
            have HZ3 := hid (show w.heap.size ≤ w2.heap.size + 1 by have := HZ2.out; omega)
            have HC := hid (cel_one w2 30 (.int .u64 (n8 l (8 + 8 * k) : Int)))
            have HNa := hid (show ((ns8 l 8 k).length + 1) * 8 ≤ 140737488355328 by have := C2.out; rw [ns8_len]; omega)
            have HNb := hid (show (ns8 l 8 k).length + 1 ≤ maxLen by have := C2.out; rw [ns8_len]; unfold maxLen; omega)
            clear hx hd hin
            go_wp2_with (at_builtin; go_must (refine wpList_ap1 Tryd.underlying50 infoU64 rfl rfl _ _ rfl w.heap.size _ (ns8 l 8 k).length (u64s (ns8 l 8 k)) [.int .u64 (n8 l (8 + 8 * k) : Int)] rfl (some ⟨w2.heap.size, 0, none⟩) 1 1 rfl (HO3.out _) HC.out (one_u64 _) (fun h => by cases h) HNa.out HNb.out (by rw [World.size_alloc]; exact HZ3.out) ?_; intro v' w9 hown hgrow hb9; have HO9 := hid hown; have HG9 := hid hgrow; have HB9 := hid hb9; clear hown hgrow hb9))
            go_roundw
            case rel =>
              refine ⟨k + 1, by omega, by go_num, ?_, ?_, ?_⟩
              · exact ownU_snoc HO9.out HSN.out
              · exact ((HX.out.trans HX2.out).alloc _).then HB9.out
              · exact HD2.out.app (HO3.out _) (by decide) HG9.out HZ0.out
            case measure => simp [intOf]; omega
        · have d1 : decide ((k : Int) < (n : Int)) = false := by simp; omega
          obtain rfl : k = n := by omega
          by_cases hin : l.length < 16 + 8 * k
          · have HE := hid (show argsR l = (((25 : Nat) : Int), [], 8) by unfold argsR; rw [if_neg C1.out, ← HNN.out, if_neg C2.out, if_pos (by omega)]; rfl)
            go_wp2_with fail
            refine (nextR_no W0 wr r a len cap sp (8 + 8 * k) l HDR.out (by omega)).mono ?_
            rintro e' w2 ⟨rfl, hb⟩
            have HB := hid hb
            clear hb hin
            go_wp2_with fail
            go_ret2
            exact argsP_no HE.out (by decide) (HX.out.trans (X1.of r HB.out)) (HDR.out.still HB.out)
          · have HIN := hid hin
            go_wp2_with fail
            refine (nextR_yes W0 wr r a len cap sp (8 + 8 * k) l HDR.out (by omega)).mono ?_
            rintro e' w2 ⟨rfl, hx, hd⟩
            have HX2 := hid (HX.out.trans hx)
            have HD2 := hid hd
            have HO2 := hid (hx.own HO.out (ownU_ne HO.out HDR.out.row (w2 := w)))
            obtain ⟨z, hz⟩ : ∃ z, z = n8 l (8 + 8 * k) := ⟨_, rfl⟩
            rw [← hz]
            by_cases h0 : z = 0
            · have HE := hid (show argsR l = (0, ns8 l 8 k, 16 + 8 * k) by unfold argsR; rw [if_neg C1.out, ← HNN.out, if_neg C2.out, if_neg HIN.out, if_neg (by rw [← hz]; simpa using h0)])
              subst h0
              clear hx hd hin hz
              go_wp2_with fail
              go_ret2
              exact argsP_yes HE.out HO2.out HX2.out HD2.out (by omega)
            · have HE := hid (show argsR l = (((25 : Nat) : Int), [], 8) by unfold argsR; rw [if_neg C1.out, ← HNN.out, if_neg C2.out, if_neg HIN.out, if_pos (by rw [← hz]; simpa using h0)]; rfl)
              have d0 : ((z : Int) != 0) = true := by simp; omega
              clear hx hd hin hz h0
              go_wp2_with fail
              go_ret2
              exact argsP_no HE.out (by decide) HX2.out HD2.out
end Go.Proofs.YtihaakcfegelkaaDoor
