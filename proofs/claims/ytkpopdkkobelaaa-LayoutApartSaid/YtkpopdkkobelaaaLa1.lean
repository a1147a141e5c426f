
/- layout: loads and their iterator. -/
import Derived.Test.YtkpopdkkobelaaaLa0
import Derived.Test.YtkpopdkkobelaaaRK
import Derived.Test.YtkpopdkkobelaaaRF
import Derived.Test.YtkpopdkkobelaaaRH
import Derived.Deep.DeepMust
namespace Go.Proofs.Ytkpopdkkobelaaa
open Go.RowKit Go.Sort Go.Shelf
attribute [local go_sem] Oper.semAt_some

/-- Segments in memory. -/
def Sgs (w : World) (a : Option Addr) (n : Nat) (l : List SG) : Prop := Rk w 6 a n (l.map sgC)
theorem Sgs.hlen {w : World} {a : Option Addr} {n : Nat} {l : List SG} (h : Sgs w a n l) : l.length = n := by have := Rk.hlen h; simpa using this
theorem Sgs.below' {w w' : World} {a : Option Addr} {n : Nat} {l : List SG} (h : Sgs w a n l) (hb : Below w.heap.size w w') : Sgs w' a n l := Rk.below' h hb
theorem Sgs.cells {w : World} {a : Option Addr} {n : Nat} {l : List SG} (h : Sgs w a n l) {k : Nat} (hk : k < l.length) : ∃ b off, a = some ⟨b, off, none⟩ ∧
    w.cell? ⟨b, off + k * 6, none⟩ = some (.int .u32 l[k].kind) ∧ w.cell? ⟨b, off + k * 6 + 1, none⟩ = some (.int .u8 l[k].flags) ∧ w.cell? ⟨b, off + k * 6 + 2, none⟩ = some (.int .u64 l[k].off) ∧ w.cell? ⟨b, off + k * 6 + 3, none⟩ = some (.int .u64 l[k].addr) ∧ w.cell? ⟨b, off + k * 6 + 4, none⟩ = some (.int .u64 l[k].fsz) ∧ w.cell? ⟨b, off + k * 6 + 5, none⟩ = some (.int .u64 l[k].msz) := by
  obtain ⟨b, off, rfl, hc⟩ := Rk.some_of h (by simp; omega)
  have hk' : k < (l.map sgC).length := by simpa using hk
  have e : (l.map sgC)[k] = sgC l[k] := by simp
  have g := fun j hj => hc k hk' j hj
  rw [e] at g
  exact ⟨b, off, rfl, g 0 (by simp [sgC]), g 1 (by simp [sgC]), g 2 (by simp [sgC]), g 3 (by simp [sgC]), g 4 (by simp [sgC]), g 5 (by simp [sgC])⟩
theorem Row.six {w : World} {g : Nat} {E : TypeId} {a b c d e f : Value} (h : Row w g E [a, b, c, d, e, f]) : w.cell? ⟨g, 0, none⟩ = some a ∧ w.cell? ⟨g, 1, none⟩ = some b ∧ w.cell? ⟨g, 2, none⟩ = some c ∧ w.cell? ⟨g, 3, none⟩ = some d ∧ w.cell? ⟨g, 4, none⟩ = some e ∧ w.cell? ⟨g, 5, none⟩ = some f :=
  ⟨h.cell 0 (by simp), h.cell 1 (by simp), h.cell 2 (by simp), h.cell 3 (by simp), h.cell 4 (by simp), h.cell 5 (by simp)⟩

theorem prs_prefix : ∀ {l m : List SG} (f : Int), l <+: m → prs f l <+: prs f m
  | [], _, _, _ => List.nil_prefix
  | s :: l, m, f, h => by
    obtain ⟨t, rfl⟩ := h
    rw [List.cons_append, prs, prs]
    exact (List.cons_prefix_cons).2 ⟨rfl, prs_prefix (frU s) (List.prefix_append l t)⟩
/-- What the iterator tells of the first k segments, and from where on the next may lie. -/
def told (sg : List SG) (k : Nat) : List (Int × SG) := prs 0 (lds (sg.take k))
def freeAt (sg : List SG) (k : Nat) : Int := (((lds (sg.take k)).getLast?).map frU).getD 0
theorem freeAt_u (sg : List SG) (k : Nat) : 0 ≤ freeAt sg k ∧ freeAt sg k ≤ 18446744073709551615 := by
  unfold freeAt
  cases (lds (sg.take k)).getLast? with
  | none => exact ⟨by decide, by decide⟩
  | some s => exact frU_u s
theorem lds_take {sg : List SG} {k : Nat} (hk : k < sg.length) : lds (sg.take (k + 1)) = lds (sg.take k) ++ if sg[k].kind = 1 then [sg[k]] else [] := by
  rw [← lds_snoc, List.take_succ_eq_append_getElem hk]
theorem told_no {sg : List SG} {k : Nat} (hk : k < sg.length) (h : ¬ sg[k].kind = 1) : told sg (k + 1) = told sg k ∧ freeAt sg (k + 1) = freeAt sg k := by
  unfold told freeAt
  rw [lds_take hk, if_neg h, List.append_nil]
  exact ⟨rfl, rfl⟩
theorem told_yes {sg : List SG} {k : Nat} (hk : k < sg.length) (h : sg[k].kind = 1) : told sg (k + 1) = told sg k ++ [(freeAt sg k, sg[k])] ∧ freeAt sg (k + 1) = frU sg[k] := by
  unfold told freeAt
  rw [lds_take hk, if_pos h, prs_snoc, List.getLast?_append]
  exact ⟨rfl, rfl⟩
theorem told_prefix (sg : List SG) (k : Nat) : told sg k <+: prs 0 (lds sg) := by
  refine prs_prefix 0 ?_
  unfold lds
  exact (List.take_prefix k sg).filter _
theorem told_full (sg : List SG) : told sg sg.length = prs 0 (lds sg) := by unfold told; rw [List.take_length]

set_option maxHeartbeats 4000000 in
theorem rightLoad_any (s : SG) (free fin : Int) (w : World) (hs : SGok s) (h0 : 0 ≤ free) (h1 : free ≤ 18446744073709551615) (hf0 : 0 ≤ fin) (hf1 : fin ≤ 18446744073709551615) :
    Calls Try.prog 25 #[sgV s, .int .u64 free, .int .u64 fin] w fun e w' => e = .returned (.bool (okS s free fin)) ∧ Below w.heap.size w w' := by
  obtain ⟨W0, hW0⟩ : ∃ W0, W0 = w.alloc (.cells #[.int .u32 s.kind, .int .u8 s.flags, .int .u64 s.off, .int .u64 s.addr, .int .u64 s.fsz, .int .u64 s.msz] 58) := ⟨_, rfl⟩
  have HB0 := hid (show Below w.heap.size w W0 by rw [hW0]; exact bal _)
  have HX := hid (show Row W0 w.heap.size 58 (sgC s) by rw [hW0]; exact Row.new w 58 (sgC s))
  obtain ⟨x0, x1, x2, x3, x4, x5⟩ := (show Row W0 w.heap.size 58 [_, _, _, _, _, _] from HX.out).six
  have hl := HX.out.lt
  have o0 := hs.o0; have o1 := hs.o1; have a0 := hs.a0; have a1 := hs.a1
  have HI1 := hid (fun (wx : World) => inside_any s.off s.fsz 65536 wx hs.z0 (by omega))
  have HI2 := hid (fun (wx : World) => inside_any s.addr s.msz fin wx hs.m0 hf1)
  have HD := hid (fun (wx : World) => down_any s.addr wx hs.a0 hs.a1)
  have HOK : Hid (okS s free fin = (!(decide (7 < s.flags)) && (!(s.msz == 0) && (!(decide (s.msz < s.fsz)) && (!(s.off % 4096 != s.addr % 4096) && (insB s.off s.fsz 65536 && (insB s.addr s.msz fin && decide (free ≤ s.addr - s.addr % 4096)))))))) := hid (by
    unfold okS insB dn
    rw [Bool.eq_iff_iff]
    simp
    omega)
  unfold sgV
  clear hs
  cases c1 : decide (7 < s.flags)
  case true =>
    rw [c1] at HOK
    go_enter Try.func25, Try.ntmps25
    go_wp2_with fail
    try rw [← hW0]
    go_wp2_with fail
    go_ret
    exact ⟨ret_bool HOK.out.symm, HB0.out⟩
  case false =>
  cases c2 : (s.msz == 0)
  case true =>
    rw [c1, c2] at HOK
    go_enter Try.func25, Try.ntmps25
    go_wp2_with fail
    try rw [← hW0]
    go_wp2_with fail
    go_ret
    exact ⟨ret_bool HOK.out.symm, HB0.out⟩
  case false =>
  cases c3 : decide (s.msz < s.fsz)
  case true =>
    rw [c1, c2, c3] at HOK
    go_enter Try.func25, Try.ntmps25
    go_wp2_with fail
    try rw [← hW0]
    go_wp2_with fail
    go_ret
    exact ⟨ret_bool HOK.out.symm, HB0.out⟩
  case false =>
  cases c4 : (s.off % 4096 != s.addr % 4096)
  case true =>
    rw [c1, c2, c3, c4] at HOK
    go_enter Try.func25, Try.ntmps25
    go_wp2_with fail
    try rw [← hW0]
    go_wp2_with fail
    go_ret
    exact ⟨ret_bool HOK.out.symm, HB0.out⟩
  case false =>
  rw [c1, c2, c3, c4] at HOK
  generalize insB s.off s.fsz 65536 = i1 at *
  generalize insB s.addr s.msz fin = i2 at *
  generalize hdd : s.addr - s.addr % 4096 = dd at *
  have HOK2 := hid HOK.out
  clear HOK
  go_enter Try.func25, Try.ntmps25
  go_wp2_with fail
  try rw [← hW0]
  clear hW0
  cases i1
  · go_wp2_with fail
    refine (HI1.out _).mono ?_
    rintro e' wx ⟨rfl, rfl⟩
    go_wp2_with fail
    go_ret
    exact ⟨ret_bool HOK2.out.symm, HB0.out⟩
  · cases i2
    · go_wp2_with fail
      refine (HI1.out _).mono ?_
      rintro e' wx ⟨rfl, rfl⟩
      go_wp2_with fail
      refine (HI2.out _).mono ?_
      rintro e' wx ⟨rfl, rfl⟩
      go_wp2_with fail
      go_ret
      exact ⟨ret_bool HOK2.out.symm, HB0.out⟩
    · go_wp2_with fail
      refine (HI1.out _).mono ?_
      rintro e' wx ⟨rfl, rfl⟩
      go_wp2_with fail
      refine (HI2.out _).mono ?_
      rintro e' wx ⟨rfl, rfl⟩
      go_wp2_with fail
      refine (HD.out _).mono ?_
      rintro e' wx ⟨rfl, rfl⟩
      go_wp2_with fail
      go_ret
      exact ⟨ret_bool HOK2.out.symm, HB0.out⟩

theorem loads_any (t n p : Value) (a : Option Addr) (m c : Nat) (w : World) (h1 : ∃ x, t = .int .u16 x) (h2 : ∃ x, n = .int .u64 x) (h3 : ∃ x, p = .int .u64 x) :
    Calls Try.prog 24 #[.agg #[t, n, p, .slice a m c]] w fun e' w' => e' = .returned (.func (.func 40) #[] #[.pointer (some ⟨w.heap.size, 0, none⟩)]) ∧ w' = w.alloc (.cells #[t, n, p, .slice a m c] 26) := by
  obtain ⟨x1, rfl⟩ := h1
  obtain ⟨x2, rfl⟩ := h2
  obtain ⟨x3, rfl⟩ := h3
  go_enter Try.func24, Try.ntmps24
  go_wp2_with fail
  go_ret
  exact ⟨rfl, rfl⟩

def prV (p : Int × SG) : Array Value := #[.int .u64 p.1, sgV p.2]

set_option maxHeartbeats 4000000 in
theorem loads_seq (a : Option Addr) (len cap : Nat) (sg : List SG) (t n p : Value) (B : Nat) (w0 w : World) (hO : Sgs w0 a len sg) (hl : len ≤ 1000000000000) (hok : ∀ s ∈ sg, SGok s) (hb0 : Below w0.heap.size w0 w) (hB : Row w B 26 [t, n, p, .slice a len cap]) :
    SeqIn Try.prog 40 #[.pointer (some ⟨B, 0, none⟩)] prV none (KpT 58 w0.heap.size) (fun ps => ps = prs 0 (lds sg)) (fun pre => pre <+: prs 0 (lds sg)) w := by
  intro l J Jx W hW hJ hJx hY h0
  have HJ := hid hJ
  have HY := hid hY
  have H0 := hid h0
  have HOB := hid hO
  have HBR := hid (hB.below hW hB.lt)
  have hc := HBR.out.cell 3 (by simp)
  simp only [List.getElem_cons_zero, List.getElem_cons_succ] at hc
  have hbl := HBR.out.lt
  have HB0 := hid (hb0.trans (hW.mono hb0.size))
  have HK := hid hok
  obtain rfl := hO.hlen
  clear hJ hJx hY h0 hB hO hb0 hok
  refine callsIn_of_wp Try.func40 rfl trivial ?_ rfl
  simp only [Try.ntmps40, List.size_toArray, List.length_cons, List.length_nil, Nat.reduceAdd, Nat.reduceSub, Array.replicate_succ, Array.replicate_zero, List.push_toArray, List.append_toArray, List.nil_append, List.cons_append]
  gi_wp2
  gi_loopw [3, 9] (fun f i wr => ∃ k : Nat, k ≤ sg.length ∧ i = .int .i64 k ∧ f = .int .u64 (freeAt sg k) ∧ J (told sg k) wr ∧ Below w0.heap.size w0 wr) (fun _ i _ => sg.length - (intOf i).toNat)
  case atStart => exact ⟨0, Nat.zero_le _, rfl, rfl, H0.out, HB0.out⟩
  case round =>
    clear hc hbl
    obtain ⟨k, hk, rfl, rfl, hj, hb⟩ := hrel
    have HJK := hid hj
    have HB := hid hb
    clear hj hb
    by_cases hlt : k < sg.length
    · have d1 : decide ((k : Int) < (sg.length : Int)) = true := by simp; omega
      obtain ⟨b, off, rfl, x0, x1, x2, x3, x4, x5⟩ := (HOB.out.below' HB.out).cells hlt
      have hsk := HK.out _ (List.getElem_mem hlt)
      have HNO := hid (told_no hlt)
      have HYES := hid (told_yes hlt)
      have HPR := hid (told_prefix sg (k + 1))
      have hfu := freeAt_u sg k
      have HUP := hid (fun (wx : World) => up_any (w64 (sg[k].addr + sg[k].msz)) wx (w64_u _).1 (w64_u _).2)
      have HFR : Hid (upV (w64 (sg[k].addr + sg[k].msz)) = frU sg[k]) := hid rfl
      generalize sg[k] = s at *
      have HJ1 := hid (HJ.out _ _ _ HJK.out (World.grownBy_alloc wr (.cells #[.int .u32 s.kind, .int .u8 s.flags, .int .u64 s.off, .int .u64 s.addr, .int .u64 s.fsz, .int .u64 s.msz] 58) none))
      have HB1 := hid (HB.out.alloc HB.out.size (.cells #[.int .u32 s.kind, .int .u8 s.flags, .int .u64 s.off, .int .u64 s.addr, .int .u64 s.fsz, .int .u64 s.msz] 58))
      have HRS := hid (Row.new wr 58 (sgC s))
      by_cases hk1 : s.kind = 1
      · have d2 : (s.kind != 1) = false := by simp [hk1]
        obtain ⟨e1, e2⟩ := HYES.out hk1
        have HE1 := hid e1
        have HE2 := hid e2
        have hN : told sg k ++ [(freeAt sg k, s)] <+: prs 0 (lds sg) := by rw [← e1]; exact HPR.out
        obtain ⟨fn, tmps, assign, body, hy, hR⟩ := HY.out _ (freeAt sg k, s) _ HJ1.out hN
        dsimp only [prV, sgV] at hy
        have HRD := hid hR
        clear hR hN e1 e2 hk1
        gi_wp2_with fail
        refine (HRD.out).mono ?_
        rintro e' w3 (⟨rfl, hj3, hk3⟩ | ⟨rfl, hjx⟩)
        · have HJ3 := hid hj3
          have HB3 := hid (HB1.out.trans hk3.1)
          have HRS3 := hid (hk3.row HRS.out)
          clear hj3 hk3 hy x0 x1 x2 x3 x4 x5
          obtain ⟨x0, x1, x2, x3, x4, x5⟩ := (show Row w3 wr.heap.size 58 [_, _, _, _, _, _] from HRS3.out).six
          have hl3 := HRS3.out.lt
          unfold w64 at HUP HFR
          gi_wp2_with fail
          refine ⟨trivial, (callsIn_wide.2 (HUP.out _)).mono ?_⟩
          rintro e' wx ⟨rfl, rfl⟩
          rw [HFR.out]
          gi_wp2_with fail
          go_roundw
          case rel => exact ⟨k + 1, by omega, by go_num, by rw [HE2.out], by rw [HE1.out]; exact HJ3.out, HB3.out⟩
          case measure => simp [intOf]; omega
        · have HJX := hid hjx
          clear hjx hy
          gi_wp2_with fail
          refine bodyPost_ret (results_none rfl _ _ _) rfl ?_
          refine ⟨⟨_, rfl⟩, .inr ⟨_, ?_, HJX.out⟩⟩
          rw [← HE1.out]; exact HPR.out
      · have d2 : (s.kind != 1) = true := by simpa using hk1
        obtain ⟨e1, e2⟩ := HNO.out hk1
        have HE1 := hid e1
        have HE2 := hid e2
        clear e1 e2 hk1
        gi_wp2_with fail
        go_roundw
        case rel => exact ⟨k + 1, by omega, by go_num, by rw [HE2.out], by rw [HE1.out]; exact HJ1.out, HB1.out⟩
        case measure => simp [intOf]; omega
    · have d1 : decide ((k : Int) < (sg.length : Int)) = false := by simp; omega
      obtain rfl : k = sg.length := by omega
      have HF := hid (told_full sg)
      gi_wp2_with fail
      refine bodyPost_end (results_none rfl _ _ _) rfl ?_
      exact ⟨⟨_, rfl⟩, .inl ⟨_, HF.out, HJK.out⟩⟩
end Go.Proofs.Ytkpopdkkobelaaa
