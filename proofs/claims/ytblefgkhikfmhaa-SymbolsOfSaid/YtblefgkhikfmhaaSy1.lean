/- hostelref13.Same of an object's dynamic section and its copy. -/
import Derived.Test.YtblefgkhikfmhaaSy0
namespace Go.Proofs.Ytblefgkhikfmhaa
open Go.RowKit Go.Sort Go.Shelf
attribute [local go_sem] Oper.semAt_some

theorem sym_ne (w : World) (s : SY) : (binOp .neq 48 (.agg #[.string (ba s.name), .int .u64 s.value, .int .u64 s.size, .int .u8 s.bind, .bool s.dfn]) (.agg #[.string (ba s.name), .int .u64 s.value, .int .u64 s.size, .int .u8 s.bind, .bool s.dfn])).run Try.prog w = .ok (.bool false) w := by
  rw [run_neq_struct, run_equalIn_agg w 9999 _ _ _ (by kernel_rfl) (by kernel_rfl)]
  simp [go_sem, Try.underlying48, Try.underlying9, Try.underlying38, Try.underlying5, Try.underlying4, Program.fieldsOf]
theorem rela_ne (w : World) (s : RL) : (binOp .neq 69 (.agg #[.int .u64 s.off, .int .u32 s.typ, .int .i64 s.sym, .int .i64 s.add]) (.agg #[.int .u64 s.off, .int .u32 s.typ, .int .i64 s.sym, .int .i64 s.add])).run Try.prog w = .ok (.bool false) w := by
  rw [run_neq_struct, run_equalIn_agg w 9999 _ _ _ (by kernel_rfl) (by kernel_rfl)]
  simp [go_sem, Try.underlying69, Try.underlying38, Try.underlying67, Try.underlying3, Try.underlying2, Program.fieldsOf]

theorem rl_cells {w : World} {a : Option Addr} {n : Nat} {l : List RL} (h : Rk w 4 a n (l.map rlC)) {k : Nat} (hk : k < l.length) : ∃ b off, a = some ⟨b, off, none⟩ ∧
    w.cell? ⟨b, off + k * 4, none⟩ = some (.int .u64 l[k].off) ∧ w.cell? ⟨b, off + k * 4 + 1, none⟩ = some (.int .u32 l[k].typ) ∧ w.cell? ⟨b, off + k * 4 + 2, none⟩ = some (.int .i64 l[k].sym) ∧ w.cell? ⟨b, off + k * 4 + 3, none⟩ = some (.int .i64 l[k].add) := by
  obtain ⟨b, off, rfl, hc⟩ := h.some_of (by simp; omega)
  have hk' : k < (l.map rlC).length := by simpa using hk
  have e : (l.map rlC)[k] = rlC l[k] := by simp
  have g := fun j hj => hc k hk' j hj
  rw [e] at g
  exact ⟨b, off, rfl, g 0 (by simp [rlC]), g 1 (by simp [rlC]), g 2 (by simp [rlC]), g 3 (by simp [rlC])⟩

theorem Twin.eq {x y : OB} (h : Twin x y) : y = { x with na := y.na, nn := y.nn, nc := y.nc, sa := y.sa, sn := y.sn, sc := y.sc, ra := y.ra, rn := y.rn, rc := y.rc } := by
  obtain ⟨⟩ := h
  cases x; cases y
  simp_all
theorem Full.nds {w : World} {x : OB} (h : Full w x) : x.nd.length = x.nn := (cel_str h.need).1
theorem Full.sys {w : World} {x : OB} (h : Full w x) : x.sy.length = x.sn := by have := h.syms.hlen; simpa using this
theorem Full.rls {w : World} {x : OB} (h : Full w x) : x.rl.length = x.rn := by have := h.rels.hlen; simpa using this

set_option maxRecDepth 100000 in
set_option maxHeartbeats 4000000 in
theorem sameD_any (x : OB) (na sa ra : Option Addr) (nc sc rc : Nat) (w : World) (hX : Full w x) (hY : Full w { x with na := na, nc := nc, sa := sa, sc := sc, ra := ra, rc := rc }) :
    Calls Try.prog 22 #[.agg #[.slice x.na x.nn x.nc, .string (ba x.soname), .string (ba x.run), .slice x.sa x.sn x.sc, .slice x.ra x.rn x.rc], .agg #[.slice na x.nn nc, .string (ba x.soname), .string (ba x.run), .slice sa x.sn sc, .slice ra x.rn rc]] w fun e w' => e = .returned (.bool true) ∧ Below w.heap.size w w' := by
  have HSL := hid hX.sys
  have HRL := hid hX.rls
  have hnn := hX.nn
  have HNN := hid (show x.nn ≤ 140737488351232 by omega)
  have HSM := hid hX.sn
  have HRM := hid hX.rn
  have hb : Below w.heap.size w ((w.alloc (.cells #[.slice x.na x.nn x.nc, .string (ba x.soname), .string (ba x.run), .slice x.sa x.sn x.sc, .slice x.ra x.rn x.rc] 37)).alloc (.cells #[.slice na x.nn nc, .string (ba x.soname), .string (ba x.run), .slice sa x.sn sc, .slice ra x.rn rc] 37)) := (bal _).alloc (by simp) _
  have h1 := (Row.new w 37 [.slice x.na x.nn x.nc, .string (ba x.soname), .string (ba x.run), .slice x.sa x.sn x.sc, .slice x.ra x.rn x.rc]).alloc (.cells #[.slice na x.nn nc, .string (ba x.soname), .string (ba x.run), .slice sa x.sn sc, .slice ra x.rn rc] 37)
  have h2 := Row.new (w.alloc (.cells #[.slice x.na x.nn x.nc, .string (ba x.soname), .string (ba x.run), .slice x.sa x.sn x.sc, .slice x.ra x.rn x.rc] 37)) 37 [.slice na x.nn nc, .string (ba x.soname), .string (ba x.run), .slice sa x.sn sc, .slice ra x.rn rc]
  rw [World.size_alloc] at h2
  have HX1 := hid (hX.below' hb)
  have HY1 := hid (hY.below' hb)
  have HB1 := hid hb
  have HT := hid (show eqT x.nd x.nd = true by simp [eqT])
  have qs : ((ba x.soname).toList == (ba x.soname).toList) = true := by simp
  have qr : ((ba x.run).toList == (ba x.run).toList) = true := by simp
  clear hX hY hb hnn
  go_enter Try.func22, Try.ntmps22
  go_wp2_with fail
  refine (eqTexts_any x.na na x.nn x.nc x.nn nc x.nd x.nd _ HX1.out.need HY1.out.need HNN.out HNN.out).mono ?_
  rintro e' w1 ⟨rfl, n0, rfl⟩
  rw [HT.out]
  generalize hW : (w.alloc (.cells #[.slice x.na x.nn x.nc, .string (ba x.soname), .string (ba x.run), .slice x.sa x.sn x.sc, .slice x.ra x.rn x.rc] 37)).alloc (.cells #[.slice na x.nn nc, .string (ba x.soname), .string (ba x.run), .slice sa x.sn sc, .slice ra x.rn rc] 37) = W1 at *
  clear hW
  obtain ⟨p0, p1, p2, p3, p4⟩ := h1.five
  obtain ⟨r0, r1, r2, r3, r4⟩ := h2.five
  have hl1 := h1.lt
  have hl2 := h2.lt
  clear h1 h2
  have hsm := HSM.out
  have hrm := HRM.out
  simp only [World.size_alloc]
  go_wp2_with fail
  go_loopw [5] (fun i wr => ∃ k : Nat, k ≤ x.sn ∧ i = .int .i64 k ∧ ∃ m, wr = W1.drewN m) (fun i _ => x.sn - (intOf i).toNat)
  case atStart => exact ⟨0, Nat.zero_le _, rfl, n0, rfl⟩
  case round =>
    obtain ⟨k, hk, rfl, m, rfl⟩ := hrel
    by_cases hlt : k < x.sn
    · have d1 : decide ((k : Int) < (x.sn : Int)) = true := by simp; omega
      have hkl : k < x.sy.length := by rw [HSL.out]; exact hlt
      obtain ⟨b1, o1, e1, s0, s1, s2, s3, s4⟩ := sy_cells HX1.out.syms hkl
      obtain ⟨b2, o2, e2, t0, t1, t2, t3, t4⟩ := sy_cells HY1.out.syms hkl
      rw [e1] at p3
      rw [show sa = some ⟨b2, o2, none⟩ from e2] at r3
      clear e1 e2
      generalize x.sy[k] = s at *
      have hne := fun (v : World) => sym_ne v s
      go_wp2_with fail
      go_quiet (fail)
      go_wp2_with fail
      go_roundw
      case rel => exact ⟨k + 1, by omega, by go_num, m + nq, by simp [World.drewN, Nat.add_assoc]⟩
      case measure => simp [intOf]; omega
    · have d1 : decide ((k : Int) < (x.sn : Int)) = false := by simp; omega
      have d1n : decide (k < x.sn) = false := by simp; omega
      clear hlt hk
      go_wp2_with fail
      go_loopw [6] (fun i wr => ∃ k : Nat, k ≤ x.rn ∧ i = .int .i64 k ∧ ∃ m, wr = W1.drewN m) (fun i _ => x.rn - (intOf i).toNat)
      case atStart => exact ⟨0, Nat.zero_le _, rfl, m, rfl⟩
      case round =>
        obtain ⟨k, hk, rfl, m, rfl⟩ := hrel
        by_cases hlt : k < x.rn
        · have d1 : decide ((k : Int) < (x.rn : Int)) = true := by simp; omega
          have hkl : k < x.rl.length := by rw [HRL.out]; exact hlt
          obtain ⟨b1, o1, e1, s0, s1, s2, s3⟩ := rl_cells HX1.out.rels hkl
          obtain ⟨b2, o2, e2, t0, t1, t2, t3⟩ := rl_cells HY1.out.rels hkl
          rw [e1] at p4
          rw [show ra = some ⟨b2, o2, none⟩ from e2] at r4
          clear e1 e2
          generalize x.rl[k] = s at *
          have hne := fun (v : World) => rela_ne v s
          go_wp2_with fail
          go_quiet (fail)
          go_wp2_with fail
          go_roundw
          case rel => exact ⟨k + 1, by omega, by go_num, m + nq, by simp [World.drewN, Nat.add_assoc]⟩
          case measure => simp [intOf]; omega
        · have d1 : decide ((k : Int) < (x.rn : Int)) = false := by simp; omega
          have d1n : decide (k < x.rn) = false := by simp; omega
          clear hlt hk
          go_wp2_with fail
          go_ret
          exact ⟨rfl, bdN HB1.out _⟩
end Go.Proofs.Ytblefgkhikfmhaa
