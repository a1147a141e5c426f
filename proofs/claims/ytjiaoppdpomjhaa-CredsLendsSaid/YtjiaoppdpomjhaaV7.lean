/- Contract of hostelref04.Lend. -/
import Derived.Test.YtjiaoppdpomjhaaV6
namespace Go.Proofs.Ytjiaoppdpomjhaa
open Go.RowKit

theorem b3a {w : World} (o1 o2 o3 : Obj) : Below w.heap.size w (((w.alloc o1).alloc o2).alloc o3) := (b2a o1 o2).alloc (by simp; omega) o3

set_option maxHeartbeats 2000000 in
theorem rlend_any (u e s g k m uid gid z : Int) (a : Option Addr) (len cap : Nat) (l : List Int) (w : World) (hB : Nums w .u32 a len l) (hcap : a = none → cap = 0) (hl : len ≤ 1048576) :
    Calls Try.prog 19 #[credV u e s g a len cap, nodeV k m uid gid z] w fun e' w' => ∃ v', e' = .returned (.tuple #[.agg #[.int .u32 u, .int .u32 (lendE k m e uid), .int .u32 (lendE k m e uid), .int .u32 g, v'], .bool (lendE k m e uid != e)]) ∧ OwnN w' w.heap.size v' l ∧ Below w.heap.size w w' := by
  have hB4 : ∀ o1 o2 o3, Nums (((w.alloc o1).alloc o2).alloc o3) .u32 a len l := fun o1 o2 o3 => hB.below' (b3a o1 o2 o3)
  have HB := hid hB4
  have HW := hid (@b3a w)
  clear hB4 hB
  have hcases : (k == 1) = false ∨ ((k == 1) = true ∧ (bits .and .u16 m 2048 != 0) = false) ∨ ((k == 1) = true ∧ (bits .and .u16 m 2048 != 0) = true) := by
    cases (k == 1) <;> cases (bits .and .u16 m 2048 != 0) <;> simp
  go_enter Try.func19, Try.ntmps19
  go_wp2_with fail
  refine (copy_any _ _ _ _ _ _ _ l _ (HB.out _ _ _) hcap hl).mono ?_
  rintro e' w1 ⟨v, rfl, ho, hb⟩
  obtain ⟨a9, c9, rfl, hN9⟩ := own_nums ho
  have r0 := (((Row.new w 25 [.int .u32 u, .int .u32 e, .int .u32 s, .int .u32 g, .slice a len cap]).alloc _).alloc _).below hb (by simp; omega)
  have r1 := (((Row.new (w.alloc (.cells #[.int .u32 u, .int .u32 e, .int .u32 s, .int .u32 g, .slice a len cap] 25)) 28 [.int .u8 k, .int .u16 m, .int .u32 uid, .int .u32 gid, .int .i64 z]).alloc _)).below hb (by simp)
  have r2 := (Row.new ((w.alloc (.cells #[.int .u32 u, .int .u32 e, .int .u32 s, .int .u32 g, .slice a len cap] 25)).alloc (.cells #[.int .u8 k, .int .u16 m, .int .u32 uid, .int .u32 gid, .int .i64 z] 28)) 25 [.int .u32 0, .int .u32 0, .int .u32 0, .int .u32 0, .slice none 0 0]).below hb (by simp)
  simp only [World.size_alloc] at r1 r2 ho hb
  have hbw := (HW.out _ _ _).trans (hb.mono (by omega))
  have HO := hid ho
  have HBW := hid hbw
  have hsz := hb.size
  simp only [World.size_alloc] at hsz
  obtain ⟨x0, x1, x2, x3, x4⟩ := r0.five
  obtain ⟨y0, y1, y2, y3, y4⟩ := r1.five
  obtain ⟨z0, z1, z2, z3, z4⟩ := r2.five
  obtain ⟨f0, f1, f2, f3, f4⟩ := r2.fiveF
  have n0 : w.heap.size < w1.heap.size := by omega
  have n1 : w.heap.size + 1 < w1.heap.size := by omega
  have n2 : w.heap.size + 1 + 1 < w1.heap.size := by omega
  clear r0 r1 r2 ho hb hbw hN9 HB HW
  rcases hcases with c1 | ⟨c1, c2⟩ | ⟨c1, c2⟩
  · have HL := hid (show lendE k m e uid = e by unfold lendE; rw [if_neg]; intro h; rw [h.1] at c1; simp at c1)
    go_wp2_with fail
    obtain ⟨W5, hW5⟩ : ∃ W5, W5 = w1.alloc (.cells #[.int .u32 u, .int .u32 e, .int .u32 e, .int .u32 g, .slice a9 l.length c9] 25) := ⟨_, rfl⟩
    rw [← hW5]
    obtain ⟨s0, s1, s2, s3, s4⟩ : W5.cell? ⟨w1.heap.size, 0, none⟩ = some (.int .u32 u) ∧ W5.cell? ⟨w1.heap.size, 1, none⟩ = some (.int .u32 e) ∧ W5.cell? ⟨w1.heap.size, 2, none⟩ = some (.int .u32 e) ∧ W5.cell? ⟨w1.heap.size, 3, none⟩ = some (.int .u32 g) ∧ W5.cell? ⟨w1.heap.size, 4, none⟩ = some (.slice a9 l.length c9) := by
      rw [hW5]; refine ⟨?_, ?_, ?_, ?_, ?_⟩ <;> go_simp
    obtain ⟨p0, p1, p2, p3, p4⟩ : W5.cell? ⟨w.heap.size + 1 + 1, 0, none⟩ = some (.int .u32 0) ∧ W5.cell? ⟨w.heap.size + 1 + 1, 1, none⟩ = some (.int .u32 0) ∧ W5.cell? ⟨w.heap.size + 1 + 1, 2, none⟩ = some (.int .u32 0) ∧ W5.cell? ⟨w.heap.size + 1 + 1, 3, none⟩ = some (.int .u32 0) ∧ W5.cell? ⟨w.heap.size + 1 + 1, 4, none⟩ = some (.slice none 0 0) := by
      rw [hW5]; refine ⟨?_, ?_, ?_, ?_, ?_⟩ <;> go_simp
    obtain ⟨q0, q1, q2, q3, q4⟩ : W5.frozen? ⟨w.heap.size + 1 + 1, 0, none⟩ = false ∧ W5.frozen? ⟨w.heap.size + 1 + 1, 1, none⟩ = false ∧ W5.frozen? ⟨w.heap.size + 1 + 1, 2, none⟩ = false ∧ W5.frozen? ⟨w.heap.size + 1 + 1, 3, none⟩ = false ∧ W5.frozen? ⟨w.heap.size + 1 + 1, 4, none⟩ = false := by
      rw [hW5]; refine ⟨?_, ?_, ?_, ?_, ?_⟩ <;> go_simp
    have xx : W5.cell? ⟨w.heap.size, 1, none⟩ = some (.int .u32 e) := by rw [hW5]; go_simp
    have HO5 : Hid (OwnN W5 (w.heap.size + 1 + 1 + 1) (.slice a9 l.length c9) l) := hid (by
      rw [hW5]
      exact HO.out.alloc _)
    have HB5 : Hid (Below w.heap.size w W5) := hid (by
      rw [hW5]
      exact HBW.out.alloc (by omega) _)
    have ne2 : ¬ (w.heap.size = w.heap.size + 1 + 1) := by omega
    have ne3 : ¬ (w.heap.size + 1 + 1 = w.heap.size) := by omega
    clear hW5 HO HBW c1 f0 f1 f2 f3 f4 x0 x1 x2 x3 x4 y0 y1 y2 y3 y4 z0 z1 z2 z3 z4
    generalize w1.heap.size = G1 at *
    have ne4 : ¬ (G1 = w.heap.size + 1 + 1) := by omega
    have ne5 : ¬ (w.heap.size + 1 + 1 = G1) := by omega
    clear n0 n1 n2 hsz
    go_region_held3 (fun w' => w'.cell? ⟨G1, 0, none⟩ = some (.int .u32 u) ∧ w'.cell? ⟨G1, 1, none⟩ = some (.int .u32 e) ∧ w'.cell? ⟨G1, 2, none⟩ = some (.int .u32 e) ∧ w'.cell? ⟨G1, 3, none⟩ = some (.int .u32 g) ∧ w'.cell? ⟨G1, 4, none⟩ = some (.slice a9 l.length c9) ∧ w'.cell? ⟨w.heap.size, 1, none⟩ = some (.int .u32 e)) (go_keep) (first | (go_at_call 99999; skip))
    go_wp2_with fail
    refine bodyPost_ret (v := .tuple #[.agg #[.int .u32 u, .int .u32 e, .int .u32 e, .int .u32 g, .slice a9 l.length c9], .bool (e != e)]) (by simp [results, Try.results19, go_sem, s0, s1, s2, s3, s4, p0, p1, p2, p3, p4]) rfl ⟨_, by rw [HL.out], ?_, ?_⟩
    · refine own_from ?_ (show w.heap.size ≤ w.heap.size + 1 + 1 + 1 by omega)
      repeat (first | with_reducible refine own_setLow ?_ (by omega) _ | with_reducible refine World.ownsRow.drew ?_)
      exact HO5.out
    · repeat (first | with_reducible refine bset ?_ (by omega) _ | with_reducible refine Below.drew ?_)
      exact HB5.out
  · have HL := hid (show lendE k m e uid = e by unfold lendE; rw [if_neg]; intro h; exact h.2 (by simpa using c2))
    go_wp2_with fail
    obtain ⟨W5, hW5⟩ : ∃ W5, W5 = w1.alloc (.cells #[.int .u32 u, .int .u32 e, .int .u32 e, .int .u32 g, .slice a9 l.length c9] 25) := ⟨_, rfl⟩
    rw [← hW5]
    obtain ⟨s0, s1, s2, s3, s4⟩ : W5.cell? ⟨w1.heap.size, 0, none⟩ = some (.int .u32 u) ∧ W5.cell? ⟨w1.heap.size, 1, none⟩ = some (.int .u32 e) ∧ W5.cell? ⟨w1.heap.size, 2, none⟩ = some (.int .u32 e) ∧ W5.cell? ⟨w1.heap.size, 3, none⟩ = some (.int .u32 g) ∧ W5.cell? ⟨w1.heap.size, 4, none⟩ = some (.slice a9 l.length c9) := by
      rw [hW5]; refine ⟨?_, ?_, ?_, ?_, ?_⟩ <;> go_simp
    obtain ⟨p0, p1, p2, p3, p4⟩ : W5.cell? ⟨w.heap.size + 1 + 1, 0, none⟩ = some (.int .u32 0) ∧ W5.cell? ⟨w.heap.size + 1 + 1, 1, none⟩ = some (.int .u32 0) ∧ W5.cell? ⟨w.heap.size + 1 + 1, 2, none⟩ = some (.int .u32 0) ∧ W5.cell? ⟨w.heap.size + 1 + 1, 3, none⟩ = some (.int .u32 0) ∧ W5.cell? ⟨w.heap.size + 1 + 1, 4, none⟩ = some (.slice none 0 0) := by
      rw [hW5]; refine ⟨?_, ?_, ?_, ?_, ?_⟩ <;> go_simp
    obtain ⟨q0, q1, q2, q3, q4⟩ : W5.frozen? ⟨w.heap.size + 1 + 1, 0, none⟩ = false ∧ W5.frozen? ⟨w.heap.size + 1 + 1, 1, none⟩ = false ∧ W5.frozen? ⟨w.heap.size + 1 + 1, 2, none⟩ = false ∧ W5.frozen? ⟨w.heap.size + 1 + 1, 3, none⟩ = false ∧ W5.frozen? ⟨w.heap.size + 1 + 1, 4, none⟩ = false := by
      rw [hW5]; refine ⟨?_, ?_, ?_, ?_, ?_⟩ <;> go_simp
    have xx : W5.cell? ⟨w.heap.size, 1, none⟩ = some (.int .u32 e) := by rw [hW5]; go_simp
    have HO5 : Hid (OwnN W5 (w.heap.size + 1 + 1 + 1) (.slice a9 l.length c9) l) := hid (by
      rw [hW5]
      exact HO.out.alloc _)
    have HB5 : Hid (Below w.heap.size w W5) := hid (by
      rw [hW5]
      exact HBW.out.alloc (by omega) _)
    have ne2 : ¬ (w.heap.size = w.heap.size + 1 + 1) := by omega
    have ne3 : ¬ (w.heap.size + 1 + 1 = w.heap.size) := by omega
    clear hW5 HO HBW c1 f0 f1 f2 f3 f4 x0 x1 x2 x3 x4 y0 y1 y2 y3 y4 z0 z1 z2 z3 z4
    generalize w1.heap.size = G1 at *
    have ne4 : ¬ (G1 = w.heap.size + 1 + 1) := by omega
    have ne5 : ¬ (w.heap.size + 1 + 1 = G1) := by omega
    clear n0 n1 n2 hsz
    go_region_held3 (fun w' => w'.cell? ⟨G1, 0, none⟩ = some (.int .u32 u) ∧ w'.cell? ⟨G1, 1, none⟩ = some (.int .u32 e) ∧ w'.cell? ⟨G1, 2, none⟩ = some (.int .u32 e) ∧ w'.cell? ⟨G1, 3, none⟩ = some (.int .u32 g) ∧ w'.cell? ⟨G1, 4, none⟩ = some (.slice a9 l.length c9) ∧ w'.cell? ⟨w.heap.size, 1, none⟩ = some (.int .u32 e)) (go_keep) (first | (go_at_call 99999; skip))
    go_wp2_with fail
    refine bodyPost_ret (v := .tuple #[.agg #[.int .u32 u, .int .u32 e, .int .u32 e, .int .u32 g, .slice a9 l.length c9], .bool (e != e)]) (by simp [results, Try.results19, go_sem, s0, s1, s2, s3, s4, p0, p1, p2, p3, p4]) rfl ⟨_, by rw [HL.out], ?_, ?_⟩
    · refine own_from ?_ (show w.heap.size ≤ w.heap.size + 1 + 1 + 1 by omega)
      repeat (first | with_reducible refine own_setLow ?_ (by omega) _ | with_reducible refine World.ownsRow.drew ?_)
      exact HO5.out
    · repeat (first | with_reducible refine bset ?_ (by omega) _ | with_reducible refine Below.drew ?_)
      exact HB5.out
  · have HL := hid (show lendE k m e uid = uid by unfold lendE; rw [if_pos]; exact ⟨by simpa using c1, by simpa using c2⟩)
    go_wp2_with fail
    obtain ⟨W5, hW5⟩ : ∃ W5, W5 = w1.alloc (.cells #[.int .u32 u, .int .u32 uid, .int .u32 uid, .int .u32 g, .slice a9 l.length c9] 25) := ⟨_, rfl⟩
    rw [← hW5]
    obtain ⟨s0, s1, s2, s3, s4⟩ : W5.cell? ⟨w1.heap.size, 0, none⟩ = some (.int .u32 u) ∧ W5.cell? ⟨w1.heap.size, 1, none⟩ = some (.int .u32 uid) ∧ W5.cell? ⟨w1.heap.size, 2, none⟩ = some (.int .u32 uid) ∧ W5.cell? ⟨w1.heap.size, 3, none⟩ = some (.int .u32 g) ∧ W5.cell? ⟨w1.heap.size, 4, none⟩ = some (.slice a9 l.length c9) := by
      rw [hW5]; refine ⟨?_, ?_, ?_, ?_, ?_⟩ <;> go_simp
    obtain ⟨p0, p1, p2, p3, p4⟩ : W5.cell? ⟨w.heap.size + 1 + 1, 0, none⟩ = some (.int .u32 0) ∧ W5.cell? ⟨w.heap.size + 1 + 1, 1, none⟩ = some (.int .u32 0) ∧ W5.cell? ⟨w.heap.size + 1 + 1, 2, none⟩ = some (.int .u32 0) ∧ W5.cell? ⟨w.heap.size + 1 + 1, 3, none⟩ = some (.int .u32 0) ∧ W5.cell? ⟨w.heap.size + 1 + 1, 4, none⟩ = some (.slice none 0 0) := by
      rw [hW5]; refine ⟨?_, ?_, ?_, ?_, ?_⟩ <;> go_simp
    obtain ⟨q0, q1, q2, q3, q4⟩ : W5.frozen? ⟨w.heap.size + 1 + 1, 0, none⟩ = false ∧ W5.frozen? ⟨w.heap.size + 1 + 1, 1, none⟩ = false ∧ W5.frozen? ⟨w.heap.size + 1 + 1, 2, none⟩ = false ∧ W5.frozen? ⟨w.heap.size + 1 + 1, 3, none⟩ = false ∧ W5.frozen? ⟨w.heap.size + 1 + 1, 4, none⟩ = false := by
      rw [hW5]; refine ⟨?_, ?_, ?_, ?_, ?_⟩ <;> go_simp
    have xx : W5.cell? ⟨w.heap.size, 1, none⟩ = some (.int .u32 e) := by rw [hW5]; go_simp
    have HO5 : Hid (OwnN W5 (w.heap.size + 1 + 1 + 1) (.slice a9 l.length c9) l) := hid (by
      rw [hW5]
      exact HO.out.alloc _)
    have HB5 : Hid (Below w.heap.size w W5) := hid (by
      rw [hW5]
      exact HBW.out.alloc (by omega) _)
    have ne2 : ¬ (w.heap.size = w.heap.size + 1 + 1) := by omega
    have ne3 : ¬ (w.heap.size + 1 + 1 = w.heap.size) := by omega
    clear hW5 HO HBW c1 f0 f1 f2 f3 f4 x0 x1 x2 x3 x4 y0 y1 y2 y3 y4 z0 z1 z2 z3 z4
    generalize w1.heap.size = G1 at *
    have ne4 : ¬ (G1 = w.heap.size + 1 + 1) := by omega
    have ne5 : ¬ (w.heap.size + 1 + 1 = G1) := by omega
    clear n0 n1 n2 hsz
    go_region_held3 (fun w' => w'.cell? ⟨G1, 0, none⟩ = some (.int .u32 u) ∧ w'.cell? ⟨G1, 1, none⟩ = some (.int .u32 uid) ∧ w'.cell? ⟨G1, 2, none⟩ = some (.int .u32 uid) ∧ w'.cell? ⟨G1, 3, none⟩ = some (.int .u32 g) ∧ w'.cell? ⟨G1, 4, none⟩ = some (.slice a9 l.length c9) ∧ w'.cell? ⟨w.heap.size, 1, none⟩ = some (.int .u32 e)) (go_keep) (first | (go_at_call 99999; skip))
    go_wp2_with fail
    refine bodyPost_ret (v := .tuple #[.agg #[.int .u32 u, .int .u32 uid, .int .u32 uid, .int .u32 g, .slice a9 l.length c9], .bool (uid != e)]) (by simp [results, Try.results19, go_sem, s0, s1, s2, s3, s4, p0, p1, p2, p3, p4]) rfl ⟨_, by rw [HL.out], ?_, ?_⟩
    · refine own_from ?_ (show w.heap.size ≤ w.heap.size + 1 + 1 + 1 by omega)
      repeat (first | with_reducible refine own_setLow ?_ (by omega) _ | with_reducible refine World.ownsRow.drew ?_)
      exact HO5.out
    · repeat (first | with_reducible refine bset ?_ (by omega) _ | with_reducible refine Below.drew ?_)
      exact HB5.out
end Go.Proofs.Ytjiaoppdpomjhaa
