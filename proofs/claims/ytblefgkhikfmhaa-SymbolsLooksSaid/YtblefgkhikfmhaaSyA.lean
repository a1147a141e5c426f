/- symbols.definitions: the iterator and its contract. -/
import Derived.Test.YtblefgkhikfmhaaSyR
import Derived.Test.YtblefgkhikfmhaaRG
import Derived.Deep.DeepMust
namespace Go.Proofs.Ytblefgkhikfmhaa
open Go.RowKit Go.Sort Go.Shelf
attribute [local go_sem] Oper.semAt_some

theorem definitions_any (v : Value) (w : World) (hv : v.oneCell' = true) (ht : ∃ a n c, v = .slice a n c) :
    Calls Try.prog 20 #[v] w fun e' w' => e' = .returned (.func (.func 28) #[] #[.pointer (some ⟨w.heap.size, 0, none⟩)]) ∧ w' = w.alloc (.cells #[v] 22) := by
  obtain ⟨a, n, c, rfl⟩ := ht
  go_enter Try.func20, Try.ntmps20
  go_wp2_with fail
  go_ret
  exact ⟨rfl, rfl⟩

def dfV (d : DF) : Array Value := #[.agg #[.int .i64 (d.1.1 : Int), .int .i64 (d.1.2 : Int)], syV d.2]

theorem isB (s : SY) : s.is = (s.dfn && (!((s.bind) == 0))) := by
  unfold SY.is
  congr 1
  rw [Bool.eq_iff_iff]
  simp

set_option maxHeartbeats 4000000 in
theorem definitions_seq (a : Option Addr) (len cap : Nat) (xs : List OB) (B : Nat) (w0 w : World) (hO : Objs w0 a len xs) (hl : len ≤ 1000000000000) (hsn : ∀ x ∈ xs, x.sn ≤ 4000000000000) (hb0 : Below w0.heap.size w0 w) (hB : Row w B 22 [.slice a len cap]) :
    SeqIn Try.prog 28 #[.pointer (some ⟨B, 0, none⟩)] dfV none (Below w0.heap.size) (fun ds => ds = defsL (osL xs)) (fun pre => pre <+: defsL (osL xs)) w := by
  intro l J Jx W hW hJ hJx hY h0
  have HJ := hid hJ
  have HY := hid hY
  have H0 := hid h0
  have HOB := hid hO
  have hr := hB.below hW hB.lt
  have hc := hr.cell 0 (by simp)
  simp only [List.getElem_cons_zero] at hc
  have HB0 := hid (hb0.trans (hW.mono hb0.size))
  have HSN := hid hsn
  obtain rfl := hO.hlen
  have hol : (osL xs).length = xs.length := by simp [osL]
  have HOL := hid hol
  clear hJ hJx hY h0 hB hO hb0 hsn hol
  refine callsIn_of_wp Try.func28 rfl trivial ?_ rfl
  simp only [Try.ntmps28, List.size_toArray, List.length_cons, List.length_nil, Nat.reduceAdd, Nat.reduceSub, Array.replicate_succ, Array.replicate_zero, List.push_toArray, List.append_toArray, List.nil_append, List.cons_append]
  gi_wp2
  gi_loopw [9] (fun i wr => ∃ k : Nat, k ≤ xs.length ∧ i = .int .i64 k ∧ J (defsAt (osL xs) k) wr ∧ Below w0.heap.size w0 wr) (fun i _ => xs.length - (intOf i).toNat)
  case atStart => exact ⟨0, Nat.zero_le _, rfl, by rw [defsAt_zero]; exact H0.out, HB0.out⟩
  case round =>
    clear hc hr
    obtain ⟨k, hk, rfl, hj, hb⟩ := hrel
    have HJK := hid hj
    have HB := hid hb
    clear hj hb
    by_cases hlt : k < xs.length
    · have d1 : decide ((k : Int) < (xs.length : Int)) = true := by simp; omega
      obtain ⟨b, off, rfl, ⟨x0, x1, x2, x3, x4, x5⟩, x6, x7, x8, x9, x10⟩ := (HOB.out.below' HB.out).cells hlt
      have HSY := hid (HOB.out.syms _ (List.getElem_mem hlt))
      have HSL := hid (HOB.out.sn (List.getElem_mem hlt))
      have hsb := HSN.out _ (List.getElem_mem hlt)
      have hosk : (osL xs)[k]'(by rw [HOL.out]; exact hlt) = toOS xs[k] := by simp [osL]
      have HOS := hid hosk
      have HDS := hid (show defsAt (osL xs) (k + 1) = defsAt (osL xs) k ++ defsOne k xs[k].sy by rw [defsAt_succ _ (by rw [HOL.out]; exact hlt), HOS.out]; rfl)
      have HPR := hid (fun q (hq : q ≤ xs[k].sy.length) => show defsAt (osL xs) k ++ defsTo k xs[k].sy q <+: defsL (osL xs) from by
        have := defs_prefix (os := osL xs) (i := k) (k := q) (by rw [HOL.out]; exact hlt) (by rw [HOS.out]; exact hq)
        rw [HOS.out] at this
        exact this)
      clear hosk
      generalize xs[k] = x at *
      have HB1 := hid (HB.out.alloc HB.out.size (.cells #[.int .i64 x.ino, .int .u64 x.base, .int .u16 x.typ, .int .u64 x.entry, .int .u64 x.phoff, .slice x.ga x.gn x.gc, .slice x.na x.nn x.nc, .string (ba x.soname), .string (ba x.run), .slice x.sa x.sn x.sc, .slice x.ra x.rn x.rc] 44))
      have HJ1 := hid (HJ.out _ _ _ HJK.out (World.grownBy_alloc wr (.cells #[.int .i64 x.ino, .int .u64 x.base, .int .u16 x.typ, .int .u64 x.entry, .int .u64 x.phoff, .slice x.ga x.gn x.gc, .slice x.na x.nn x.nc, .string (ba x.soname), .string (ba x.run), .slice x.sa x.sn x.sc, .slice x.ra x.rn x.rc] 44) none))
      gi_wp2_with fail
      rename World => wA
      obtain ⟨wo, hwo⟩ : ∃ wo : World, wo = wA.alloc (.cells #[.int .i64 x.ino, .int .u64 x.base, .int .u16 x.typ, .int .u64 x.entry, .int .u64 x.phoff, .slice x.ga x.gn x.gc, .slice x.na x.nn x.nc, .string (ba x.soname), .string (ba x.run), .slice x.sa x.sn x.sc, .slice x.ra x.rn x.rc] 44) := ⟨_, rfl⟩
      rw [← hwo] at HB1 HJ1 ⊢
      clear hwo x0 x1 x2 x3 x4 x5 x6 x7 x8 x9 x10 HJK HB
      gi_loopw [18] (fun i wr => ∃ q : Nat, q ≤ x.sn ∧ i = .int .i64 q ∧ J (defsAt (osL xs) k ++ defsTo k x.sy q) wr ∧ Below w0.heap.size w0 wr) (fun i _ => x.sn - (intOf i).toNat)
      case atStart => exact ⟨0, Nat.zero_le _, rfl, by rw [defsTo_zero, List.append_nil]; exact HJ1.out, HB1.out⟩
      case round =>
        clear HJ1 HB1
        obtain ⟨q, hq, rfl, hj, hb⟩ := hrel
        have HJQ := hid hj
        have HBQ := hid hb
        clear hj hb
        by_cases hqlt : q < x.sn
        · have d2 : decide ((q : Int) < (x.sn : Int)) = true := by simp; omega
          have hql : q < x.sy.length := by rw [HSL.out]; exact hqlt
          obtain ⟨bs, os, es, y0, y1, y2, y3, y4⟩ := sy_cells (HSY.out.below' HBQ.out) hql
          have HTS := hid (defsTo_succ k x.sy hql)
          have HIS := hid (isB x.sy[q])
          have HPQ := hid (HPR.out (q + 1) hql)
          generalize hsv : x.sy[q] = s at *
          clear hsv
          have HJ2 := hid (HJ.out _ _ _ HJQ.out (World.grownBy_alloc wr (.cells #[.string (ba s.name), .int .u64 s.value, .int .u64 s.size, .int .u8 s.bind, .bool s.dfn] 48) none))
          have HB2 := hid (HBQ.out.alloc HBQ.out.size (.cells #[.string (ba s.name), .int .u64 s.value, .int .u64 s.size, .int .u8 s.bind, .bool s.dfn] 48))
          have HCLOSE := hid (show s.is = false → defsTo k x.sy (q + 1) = defsTo k x.sy q by intro h; rw [HTS.out, h]; simp)
          have HCLOSE2 := hid (show s.is = true → defsTo k x.sy (q + 1) = defsTo k x.sy q ++ [((k, q), s)] by intro h; rw [HTS.out, h]; simp)
          rw [es]
          cases hd : s.dfn
          · have HF := hid (HCLOSE.out (by rw [HIS.out, hd]; rfl))
            rw [hd] at HJ2 HB2 y4
            gi_wp2_with fail
            refine ⟨fun _ h => (by cases h), ?_⟩
            gi_wp2_with fail
            go_roundw
            case rel => exact ⟨q + 1, by omega, by go_num, by rw [HF.out]; exact HJ2.out, HB2.out⟩
            case measure => simp [intOf]; omega
          · by_cases hb0 : s.bind = 0
            case neg =>
              have HF := hid (HCLOSE2.out (by rw [HIS.out, hd, beq_eq_false_iff_ne.2 hb0]; rfl))
              have hN : (defsAt (osL xs) k ++ defsTo k x.sy q) ++ [((k, q), s)] <+: defsL (osL xs) := by
                have := HPQ.out
                rwa [HF.out, ← List.append_assoc] at this
              obtain ⟨fn, tmps, assign, body, hy, hR⟩ := HY.out _ ((k, q), s) _ HJ2.out hN
              dsimp only [dfV, syV] at hy
              rw [hd] at HJ2 HB2 y4 hy hR
              have HRD := hid hR
              clear hR hN
              gi_wp2_with fail
              refine (HRD.out).mono ?_
              rintro e' w3 (⟨rfl, hj3, hk3⟩ | ⟨rfl, hjx⟩)
              · have HJ3 := hid hj3
                have HB3 := hid (HB2.out.trans hk3)
                clear hj3 hk3 hy
                gi_wp2_with fail
                go_roundw
                case rel => exact ⟨q + 1, by omega, by go_num, by rw [HF.out, ← List.append_assoc]; exact HJ3.out, HB3.out⟩
                case measure => simp [intOf]; omega
              · have HJX := hid hjx
                clear hjx hy
                gi_wp2_with fail
                refine bodyPost_ret (results_none rfl _ _ _) rfl ?_
                refine ⟨⟨_, rfl⟩, .inr ⟨_, ?_, HJX.out⟩⟩
                have := HPQ.out
                rwa [HF.out, ← List.append_assoc] at this
            case pos =>
              have HF := hid (HCLOSE.out (by rw [HIS.out, hd, hb0]; rfl))
              rw [hd, hb0] at HJ2 HB2
              rw [hd] at y4
              rw [hb0] at y3
              gi_wp2_with fail
              refine ⟨fun _ h => (by cases h), ?_⟩
              gi_wp2_with fail
              go_roundw
              case rel => exact ⟨q + 1, by omega, by go_num, by rw [HF.out]; exact HJ2.out, HB2.out⟩
              case measure => simp [intOf]; omega
        · have d2 : decide ((q : Int) < (x.sn : Int)) = false := by simp; omega
          obtain rfl : q = x.sn := by omega
          gi_wp2_with fail
          go_roundw
          case rel => exact ⟨k + 1, by omega, by go_num, by have := HJQ.out; rwa [← HSL.out, defsTo_full, ← HDS.out] at this, HBQ.out⟩
          case measure => simp [intOf]; omega
    · have d1 : decide ((k : Int) < (xs.length : Int)) = false := by simp; omega
      obtain rfl : k = xs.length := by omega
      have HF := hid (show defsAt (osL xs) xs.length = defsL (osL xs) by rw [← HOL.out, defsAt_full])
      gi_wp2_with fail
      refine bodyPost_end (results_none rfl _ _ _) rfl ?_
      exact ⟨⟨_, rfl⟩, .inl ⟨_, HF.out, HJK.out⟩⟩
end Go.Proofs.Ytblefgkhikfmhaa
