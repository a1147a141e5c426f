
/- hostelref20.Lay. -/
import Derived.Test.YtihaakcfegelkaaDoorTp2
import Derived.Test.YtihaakcfegelkaaDoorTp3
import Derived.Test.YtihaakcfegelkaaDoorTl4
import Derived.Test.YtihaakcfegelkaaDoorTn0
namespace Go.Proofs.YtihaakcfegelkaaDoor
open Go.RowKit Go.Sort
attribute [local go_sem] Oper.semAt_some

def RLPost (w : World) (argv env : List BL) (aux : List (Nat × Nat)) (path : BL) (e : Ending) (w' : World) : Prop :=
  (layE argv env aux path ≠ 0 ∧ e = .returned (.tuple #[.slice none 0 0, .int .u64 0, .int .i64 (layE argv env aux path)]) ∧ Below w.heap.size w w') ∨
  (layE argv env aux path = 0 ∧ ∃ a c, e = .returned (.tuple #[.slice a (allN argv env aux path) c, .int .u64 ((top20 - allN argv env aux path : Nat) : Int), .int .i64 0]) ∧ Byt w' a (allN argv env aux path) (layB argv env aux path) ∧ Below w.heap.size w w')
theorem rlP_no {w w' : World} {argv env : List BL} {aux : List (Nat × Nat)} {path : BL} {er : Int} (h : layE argv env aux path = er) (he : er ≠ 0) (hb : Below w.heap.size w w') : RLPost w argv env aux path (.returned (.tuple #[.slice none 0 0, .int .u64 0, .int .i64 er])) w' :=
  .inl ⟨by rw [h]; exact he, by rw [h], hb⟩
theorem tb_start {w1 : World} {g : Nat} (hr : Row w1 g 5 (List.replicate 8 (.int .u8 0))) : TB (w1.alloc (.cells #[.slice (some ⟨g, 0, none⟩) 8 8, .slice none 0 0] 55)) w1.heap.size g (List.replicate 8 0) := by
  rw [rep_b8] at hr
  have ho : OwnBy w1 g (.slice (some ⟨g, 0, none⟩) 8 8) (List.replicate 8 0) := hr.ownBy (Nat.le_refl _) (by simp)
  have hm := OwnM.of ho (by simp)
  exact ⟨g, 8, Row.new w1 55 [.slice (some ⟨g, 0, none⟩) 8 8, .slice none 0 0], hm.below (bal _) (Nat.le_refl _)⟩
theorem own_byt2 {w : World} {base : Nat} {v : Value} {l : BL} (h : OwnBy w base v l) : ∃ a c, v = .slice a l.length c ∧ Byt w a l.length l := by
  obtain ⟨a, c, e, hc, _⟩ := own_cel h
  refine ⟨a, c, e, rfl, fun i hi => ?_⟩
  obtain ⟨b, off, e2, h2⟩ := hc.cell i (by simpa using hi)
  exact ⟨b, off, e2, by rw [h2]; simp [B8]⟩

set_option maxRecDepth 100000 in
set_option maxHeartbeats 8000000 in
theorem rlay20_any (a b c : Option Addr) (ac bc cc : Nat) (argv env : List BL) (aux : List (Nat × Nat)) (path : BL) (w : World) (hA : Cel w a argv.length (strs argv)) (hB : Cel w b env.length (strs env)) (hC : Axs w c aux.length aux)
    (ha : argv.length ≤ 140737488351232) (hb : env.length ≤ 140737488351232) (hc : aux.length ≤ 140737488351232) (hsa : ∀ p ∈ argv, p.length ≤ 140737488351232) (hsb : ∀ p ∈ env, p.length ≤ 140737488351232) (hsp : path.length ≤ 140737488351232) (h64 : ∀ x ∈ aux, U64 x.1 ∧ U64 x.2) :
    Calls Tryd.prog 11 #[.slice a argv.length ac, .slice b env.length bc, .slice c aux.length cc, .string (ba path)] w (RLPost w argv env aux path) := by
  have HA := hid hA
  have HB := hid hB
  have HC := hid hC
  have H64 := hid h64
  have HCK := hid (rmay20_any a b c ac bc cc argv env aux (ba path) w hA hB hC ha hb hc hsa hsb (by rw [ba_size]; exact hsp))
  rw [ba_list] at HCK
  clear hA hB hC ha hb hc hsa hsb hsp h64
  by_cases hck : chkS argv env aux path = 0
  · have HCK0 := hid hck
    obtain ⟨hca, hcb, hct⟩ := chkS_0 hck
    have hsa := chkL_small hca
    have hsb := chkL_small hcb
    obtain ⟨hp, hx, _, _⟩ := chkT_0 hct
    have HSA := hid hsa
    have HSB := hid hsb
    have HPX := hid (And.intro hp hx)
    have HTA := hid (tbN_le hsa.2)
    have HTE := hid (tbN_le hsb.2)
    have HTL := hid (txtB_len argv env path)
    rw [hck] at HCK
    clear hca hcb hct hsa hsb hp hx hck
    go_enter Tryd.func11, Tryd.ntmps11
    go_wp2_with fail
    refine (HCK.out).mono ?_
    rintro e' w0 ⟨rfl, hw⟩
    subst hw
    clear HCK
    go_wp2_with (at_make; refine wpList_make_row _ rfl _ _ 29 rfl 5 (.int .u8 0) 1 Tryd.underlying29 infoBy rfl .i64 .i64 _ _ 8 rfl rfl rfl rfl (by decide) (by decide) ?_; intro w1 hr1 hb1 hs1; have HR1 := hid hr1; have HB1 := hid hb1; clear hr1 hb1 hs1)
    have htb := tb_start HR1.out
    have hb2 : Below w.heap.size w (w1.alloc (.cells #[.slice (some ⟨w.heap.size, 0, none⟩) 8 8, .slice none 0 0] 55)) := HB1.out.alloc HB1.out.size _
    have hsz : (w1.alloc (.cells #[.slice (some ⟨w.heap.size, 0, none⟩) 8 8, .slice none 0 0] 55)).heap.size = w1.heap.size + 1 := World.size_alloc _ _
    have hst : w1.heap.size < (w1.alloc (.cells #[.slice (some ⟨w.heap.size, 0, none⟩) 8 8, .slice none 0 0] 55)).heap.size := by simp
    generalize w1.alloc (.cells #[.slice (some ⟨w.heap.size, 0, none⟩) 8 8, .slice none 0 0] 55) = w2 at *
    have HT2 := hid (htb.below (@bal w2 (.cells #[.string (ba path)] 9)) (Nat.le_refl _))
    have HB2 := hid (hb2.alloc hb2.size (.cells #[.string (ba path)] 9))
    have HCP := hid (cel_one w2 9 (.string (ba path)))
    rw [hsz] at HCP
    have HSZ2 := hid hsz
    have H200 := hid HPX.out.1
    clear htb hb2 hst hsz
    refine (tput_any w1.heap.size w.heap.size (List.replicate 8 0) (some ⟨w1.heap.size + 1, 0, none⟩) 1 [path] _ HT2.out HCP.out (by intro s hs; rw [List.mem_singleton.1 hs]; have := H200.out; omega) (by simp) (by have := H200.out; simp [tbN]; omega) HB2.out.size).mono ?_
    rintro e' w3 ⟨G0, rfl, hG0, hr3, ht3, hx3⟩
    have HZ1 := hid HB1.out.size
    have HB3 := hid (show Below w.heap.size w w3 from HB2.out.trans (hx3.below HZ1.out HB2.out.size))
    have HR3 := hid (show Row w3 G0 30 (u64s [top20 - (path.length + 9)]) by
      have e : atsL (top20 - ((List.replicate 8 (0 : UInt8)).length + tbN [path])) [path] = [top20 - (path.length + 9)] := by
        unfold tbN atsL
        simp only [List.length_replicate, List.map_cons, List.map_nil, List.sum_cons, List.sum_nil, atsL]
        congr 1
        omega
      rw [e] at hr3; exact hr3)
    have HT3 := hid (show TB w3 w1.heap.size w.heap.size (path ++ [0] ++ List.replicate 8 0) by rw [← catZ_one]; exact ht3)
    clear hr3 ht3 hx3 HT2 HCP
    go_wp2_with fail
    refine (tput_any w1.heap.size w.heap.size (path ++ [0] ++ List.replicate 8 0) b bc env w3 HT3.out (HB.out.below' HB3.out) (fun s hs => by have := HSB.out.2 s hs; omega) HSB.out.1 (by have := HTE.out; have := HSB.out.1; have := H200.out; simp; omega) HB3.out.size).mono ?_
    rintro e' w4 ⟨G1, rfl, hG1, hr4, ht4, hx4⟩
    have HB4 := hid (show Below w.heap.size w w4 from HB3.out.trans (hx4.below HZ1.out HB3.out.size))
    have HE4 := hid (show Row w4 G1 30 (u64s (atsL (top20 - (txtB argv env path).length + (catZ argv).length) env)) by
      have e : top20 - ((path ++ [0] ++ List.replicate 8 0).length + tbN env) = top20 - (txtB argv env path).length + (catZ argv).length := by
        rw [HTL.out, catZ_len]
        have := HTA.out; have := HTE.out; have := HSA.out.1; have := HSB.out.1; have := H200.out
        simp
        unfold top20
        omega
      rw [e] at hr4; exact hr4)
    obtain ⟨gz, cz, hrz, _⟩ := HT3.out.has
    have HN4 := hid (hx4.row HR3.out (rows_ne2 HR3.out hrz (by decide)))
    have HT4 := hid ht4
    clear hr4 ht4 hx4 hrz
    go_wp2_with fail
    refine (tput_any w1.heap.size w.heap.size (catZ env ++ (path ++ [0] ++ List.replicate 8 0)) a ac argv w4 HT4.out (HA.out.below' HB4.out) (fun s hs => by have := HSA.out.2 s hs; omega) HSA.out.1 (by have := HTA.out; have := HTE.out; have := HSA.out.1; have := HSB.out.1; have := H200.out; simp only [List.length_append, catZ_len, List.length_cons, List.length_nil, List.length_replicate]; omega) HB4.out.size).mono ?_
    rintro e' w5 ⟨G2, rfl, hG2, hr5, ht5, hx5⟩
    have HB5 := hid (show Below w.heap.size w w5 from HB4.out.trans (hx5.below HZ1.out HB4.out.size))
    have HA5 := hid (show Row w5 G2 30 (u64s (atsL (top20 - (txtB argv env path).length) argv)) by
      have e : top20 - ((catZ env ++ (path ++ [0] ++ List.replicate 8 0)).length + tbN argv) = top20 - (txtB argv env path).length := by
        rw [HTL.out]
        simp only [List.length_append, catZ_len, List.length_cons, List.length_nil, List.length_replicate]
        congr 1
        omega
      rw [e] at hr5; exact hr5)
    obtain ⟨gz, cz, hrz, _⟩ := HT4.out.has
    have HE5 := hid (hx5.row HE4.out (rows_ne2 HE4.out hrz (by decide)))
    have HN5 := hid (hx5.row HN4.out (rows_ne2 HN4.out hrz (by decide)))
    have HT5 := hid (show TB w5 w1.heap.size w.heap.size (txtB argv env path) from ht5)
    have e4 : IntKind.u64.wrap (argv.length : Int) = (argv.length : Int) := IntWalk.u64_in _ (by have := HSA.out.1; omega)
    clear hr5 ht5 hx5 hrz hG0 hG1 hG2 HR3 HT3 HE4 HN4 HT4
    go_wp2_with fail
    refine (rbytes_any argv.length w5 (by have := HSA.out.1; omega)).mono ?_
    rintro e' w6 ⟨g6, rfl, hg6, hr6, hb6⟩
    have HV6 := hid (show OwnBy w6 w5.heap.size (.slice (some ⟨g6, 0, none⟩) 8 8) (numsB [argv.length]) by
      rw [numsB_one]; exact (show OwnBy _ _ (.slice (some ⟨g6, 0, none⟩) (leB argv.length 8).length (leB argv.length 8).length) _ from hr6.ownBy hg6 (by rw [leB_len]; decide)))
    have HB6 := hid hb6
    clear hg6 hr6 hb6 e4
    go_wp2_with fail
    have HL1 := hid HSA.out.1
    have HL2 := hid HSB.out.1
    have HL3 := hid HPX.out.2
    have HAU := hid (show ∀ x ∈ atsL (top20 - (txtB argv env path).length) argv, x < 18446744073709551616 from fun x hx => by have h1 := atsL_ge _ _ x hx; have h2 := HTA.out; have h3 := HSA.out.1; unfold top20 at h1; omega)
    have HEU := hid (show ∀ x ∈ atsL (top20 - (txtB argv env path).length + (catZ argv).length) env, x < 18446744073709551616 from fun x hx => by have h1 := atsL_ge _ _ x hx; have h2 := HTE.out; have h4 := HTA.out; have h5 := HSB.out.1; have h6 := HSA.out.1; rw [catZ_len] at h1; unfold top20 at h1; omega)
    have HAL := hid (atsL_len (top20 - (txtB argv env path).length) argv)
    have HEL := hid (atsL_len (top20 - (txtB argv env path).length + (catZ argv).length) env)
    go_loopw [16, 17] (fun v i wr => ∃ k : Nat, k ≤ argv.length ∧ i = .int .i64 k ∧ OwnBy wr w5.heap.size v (numsB ([argv.length] ++ (atsL (top20 - (txtB argv env path).length) argv).take k)) ∧ Below w5.heap.size w5 wr) (fun _ i _ => argv.length - (intOf i).toNat)
    case atStart => exact ⟨0, Nat.zero_le _, rfl, by rw [List.take_zero, List.append_nil]; exact HV6.out, HB6.out⟩
    case round =>
      obtain ⟨k, hk, rfl, hown, hbw⟩ := hrel
      have HO := hid hown
      have HBW := hid hbw
      clear hown hbw
      by_cases hlt : k < argv.length
      · have d1 : decide ((k : Int) < (argv.length : Int)) = true := by simp; omega
        have d1n : decide (k < argv.length) = true := by simp; omega
        have hlk : k < (atsL (top20 - (txtB argv env path).length) argv).length := by rw [HAL.out]; exact hlt
        have hrw := HA5.out.below HBW.out HA5.out.lt
        have hx : wr.cell? ⟨G2, k, none⟩ = some (.int .u64 (((atsL (top20 - (txtB argv env path).length) argv)[k] : Nat) : Int)) := by
          have h9 := hrw.cell k (by rw [u64s_len]; exact hlk)
          rw [h9]; simp [u64s]
        have hGl := hrw.lt
        have HXU := hid (HAU.out _ (List.getElem_mem hlk))
        have HTK := hid (show (atsL (top20 - (txtB argv env path).length) argv).take (k + 1) = (atsL (top20 - (txtB argv env path).length) argv).take k ++ [(atsL (top20 - (txtB argv env path).length) argv)[k]] from List.take_succ_eq_append_getElem hlk)
        have hk33 : k < 33 := by have := HL1.out; have := HL2.out; omega
        generalize (atsL (top20 - (txtB argv env path).length) argv)[k] = x at *
        clear hrw
        go_wp2_with fail
        obtain ⟨NN, hNN⟩ : ∃ NN, NN = (numsB ([argv.length] ++ (atsL (top20 - (txtB argv env path).length) argv).take k)).length := ⟨_, rfl⟩
        have hNl : NN ≤ 100000 := by have := HL1.out; have := HL2.out; have := HL3.out; rw [hNN, numsB_len]; simp only [List.length_append, List.length_cons, List.length_nil, List.length_take, atsL_len, auxN_len]; omega
        have HOn := hid (own_ext HO.out hNN.symm rfl)
        have HNa := hid (show (NN + 8) * 1 ≤ 140737488355328 by omega)
        have HNb := hid (show NN + 8 ≤ maxLen by unfold maxLen; omega)
        clear hNl hNN HO
        refine (rbytes_any x wr HXU.out).mono ?_
        rintro e' wb ⟨gb, rfl, hgb, hrb, hbb⟩
        have HBb := hid (HBW.out.trans (hbb.mono HBW.out.size))
        have HOb := hid (own_below HOn.out hbb)
        have HCb := hid (show Cel wb (some ⟨gb, 0, none⟩) 8 ((leB x 8).map B8) by have h9 := hrb.celB; rwa [leB_len] at h9)
        have HZb := hid HBb.out.size
        clear hgb hrb hbb HOn HBW
        go_wp2_with (at_builtin; go_must (refine wpList_ap1 Tryd.underlying29 infoBy rfl rfl _ _ rfl w5.heap.size _ NN ((numsB ([argv.length] ++ (atsL (top20 - (txtB argv env path).length) argv).take k)).map B8) ((leB x 8).map B8) rfl (some ⟨gb, 0, none⟩) 8 8 rfl HOb.out HCb.out (b8_ones _) (fun h => by cases h) HNa.out HNb.out HZb.out ?_; intro v9 w9 hown hgrow hb9; have HO9 := hid hown; have HB9 := hid hb9; clear hown hgrow hb9))
        have HO := hid (ownBy_app (c := numsB ([argv.length] ++ (atsL (top20 - (txtB argv env path).length) argv).take (k + 1))) HO9.out (by rw [HTK.out, ← List.append_assoc, numsB_app _ [x], numsB_one]))
        have HBW := hid (HBb.out.trans HB9.out)
        clear HO9 HB9 HBb HOb HCb HZb HNa HNb
        go_roundw
        case rel => exact ⟨k + 1, by omega, by go_num, HO.out, HBW.out⟩
        case measure => simp [intOf]; omega
      · have d1 : decide ((k : Int) < (argv.length : Int)) = false := by simp; omega
        have d1n : decide (k < argv.length) = false := by simp; omega
        have HTK := hid (show (atsL (top20 - (txtB argv env path).length) argv).take k = atsL (top20 - (txtB argv env path).length) argv from List.take_of_length_le (by rw [HAL.out]; omega))
        rw [HTK.out] at HO
        clear HTK hlt
        go_wp2_with fail
        obtain ⟨NN, hNN⟩ : ∃ NN, NN = (numsB ([argv.length] ++ atsL (top20 - (txtB argv env path).length) argv)).length := ⟨_, rfl⟩
        have hNl : NN ≤ 100000 := by have := HL1.out; have := HL2.out; have := HL3.out; rw [hNN, numsB_len]; simp only [List.length_append, List.length_cons, List.length_nil, List.length_take, atsL_len, auxN_len]; omega
        have HOn := hid (own_ext HO.out hNN.symm rfl)
        have HNa := hid (show (NN + 8) * 1 ≤ 140737488355328 by omega)
        have HNb := hid (show NN + 8 ≤ maxLen by unfold maxLen; omega)
        clear hNl hNN HO
        refine (rbytes_any 0 wr (by decide)).mono ?_
        rintro e' wb ⟨gb, rfl, hgb, hrb, hbb⟩
        have HBb := hid (HBW.out.trans (hbb.mono HBW.out.size))
        have HOb := hid (own_below HOn.out hbb)
        have HCb := hid (show Cel wb (some ⟨gb, 0, none⟩) 8 ((leB 0 8).map B8) by have h9 := hrb.celB; rwa [leB_len] at h9)
        have HZb := hid HBb.out.size
        clear hgb hrb hbb HOn HBW
        go_wp2_with (at_builtin; go_must (refine wpList_ap1 Tryd.underlying29 infoBy rfl rfl _ _ rfl w5.heap.size _ NN ((numsB ([argv.length] ++ atsL (top20 - (txtB argv env path).length) argv)).map B8) ((leB 0 8).map B8) rfl (some ⟨gb, 0, none⟩) 8 8 rfl HOb.out HCb.out (b8_ones _) (fun h => by cases h) HNa.out HNb.out HZb.out ?_; intro v9 w9 hown hgrow hb9; have HO9 := hid hown; have HB9 := hid hb9; clear hown hgrow hb9))
        have HO := hid (ownBy_app (c := numsB ([argv.length] ++ atsL (top20 - (txtB argv env path).length) argv ++ [0])) HO9.out (by rw [numsB_app _ [0], numsB_one]))
        have HBW := hid (HBb.out.trans HB9.out)
        clear HO9 HB9 HBb HOb HCb HZb HNa HNb
        rename World => wA
        go_loopw [16, 18] (fun v i wr => ∃ k : Nat, k ≤ env.length ∧ i = .int .i64 k ∧ OwnBy wr w5.heap.size v (numsB ([argv.length] ++ atsL (top20 - (txtB argv env path).length) argv ++ [0] ++ (atsL (top20 - (txtB argv env path).length + (catZ argv).length) env).take k)) ∧ Below w5.heap.size w5 wr) (fun _ i _ => env.length - (intOf i).toNat)
        case atStart => exact ⟨0, Nat.zero_le _, rfl, by rw [List.take_zero, List.append_nil]; exact HO.out, HBW.out⟩
        case round =>
          obtain ⟨k, hk, rfl, hown, hbw⟩ := hrel
          clear HO HBW
          have HO := hid hown
          have HBW := hid hbw
          clear hown hbw
          by_cases hlt : k < env.length
          · have d1 : decide ((k : Int) < (env.length : Int)) = true := by simp; omega
            have d1n : decide (k < env.length) = true := by simp; omega
            have hlk : k < (atsL (top20 - (txtB argv env path).length + (catZ argv).length) env).length := by rw [HEL.out]; exact hlt
            have hrw := HE5.out.below HBW.out HE5.out.lt
            have hx : wr.cell? ⟨G1, k, none⟩ = some (.int .u64 (((atsL (top20 - (txtB argv env path).length + (catZ argv).length) env)[k] : Nat) : Int)) := by
              have h9 := hrw.cell k (by rw [u64s_len]; exact hlk)
              rw [h9]; simp [u64s]
            have hGl := hrw.lt
            have HXU := hid (HEU.out _ (List.getElem_mem hlk))
            have HTK := hid (show (atsL (top20 - (txtB argv env path).length + (catZ argv).length) env).take (k + 1) = (atsL (top20 - (txtB argv env path).length + (catZ argv).length) env).take k ++ [(atsL (top20 - (txtB argv env path).length + (catZ argv).length) env)[k]] from List.take_succ_eq_append_getElem hlk)
            have hk33 : k < 33 := by have := HL1.out; have := HL2.out; omega
            generalize (atsL (top20 - (txtB argv env path).length + (catZ argv).length) env)[k] = x at *
            clear hrw
            go_wp2_with fail
            obtain ⟨NN, hNN⟩ : ∃ NN, NN = (numsB ([argv.length] ++ atsL (top20 - (txtB argv env path).length) argv ++ [0] ++ (atsL (top20 - (txtB argv env path).length + (catZ argv).length) env).take k)).length := ⟨_, rfl⟩
            have hNl : NN ≤ 100000 := by have := HL1.out; have := HL2.out; have := HL3.out; rw [hNN, numsB_len]; simp only [List.length_append, List.length_cons, List.length_nil, List.length_take, atsL_len, auxN_len]; omega
            have HOn := hid (own_ext HO.out hNN.symm rfl)
            have HNa := hid (show (NN + 8) * 1 ≤ 140737488355328 by omega)
            have HNb := hid (show NN + 8 ≤ maxLen by unfold maxLen; omega)
            clear hNl hNN HO
            refine (rbytes_any x wr HXU.out).mono ?_
            rintro e' wb ⟨gb, rfl, hgb, hrb, hbb⟩
            have HBb := hid (HBW.out.trans (hbb.mono HBW.out.size))
            have HOb := hid (own_below HOn.out hbb)
            have HCb := hid (show Cel wb (some ⟨gb, 0, none⟩) 8 ((leB x 8).map B8) by have h9 := hrb.celB; rwa [leB_len] at h9)
            have HZb := hid HBb.out.size
            clear hgb hrb hbb HOn HBW
            go_wp2_with (at_builtin; go_must (refine wpList_ap1 Tryd.underlying29 infoBy rfl rfl _ _ rfl w5.heap.size _ NN ((numsB ([argv.length] ++ atsL (top20 - (txtB argv env path).length) argv ++ [0] ++ (atsL (top20 - (txtB argv env path).length + (catZ argv).length) env).take k)).map B8) ((leB x 8).map B8) rfl (some ⟨gb, 0, none⟩) 8 8 rfl HOb.out HCb.out (b8_ones _) (fun h => by cases h) HNa.out HNb.out HZb.out ?_; intro v9 w9 hown hgrow hb9; have HO9 := hid hown; have HB9 := hid hb9; clear hown hgrow hb9))
            have HO := hid (ownBy_app (c := numsB ([argv.length] ++ atsL (top20 - (txtB argv env path).length) argv ++ [0] ++ (atsL (top20 - (txtB argv env path).length + (catZ argv).length) env).take (k + 1))) HO9.out (by rw [HTK.out, ← List.append_assoc, numsB_app _ [x], numsB_one]))
            have HBW := hid (HBb.out.trans HB9.out)
            clear HO9 HB9 HBb HOb HCb HZb HNa HNb
            go_roundw
            case rel => exact ⟨k + 1, by omega, by go_num, HO.out, HBW.out⟩
            case measure => simp [intOf]; omega
          · have d1 : decide ((k : Int) < (env.length : Int)) = false := by simp; omega
            have d1n : decide (k < env.length) = false := by simp; omega
            have HTK := hid (show (atsL (top20 - (txtB argv env path).length + (catZ argv).length) env).take k = atsL (top20 - (txtB argv env path).length + (catZ argv).length) env from List.take_of_length_le (by rw [HEL.out]; omega))
            rw [HTK.out] at HO
            clear HTK hlt
            go_wp2_with fail
            obtain ⟨NN, hNN⟩ : ∃ NN, NN = (numsB ([argv.length] ++ atsL (top20 - (txtB argv env path).length) argv ++ [0] ++ atsL (top20 - (txtB argv env path).length + (catZ argv).length) env)).length := ⟨_, rfl⟩
            have hNl : NN ≤ 100000 := by have := HL1.out; have := HL2.out; have := HL3.out; rw [hNN, numsB_len]; simp only [List.length_append, List.length_cons, List.length_nil, List.length_take, atsL_len, auxN_len]; omega
            have HOn := hid (own_ext HO.out hNN.symm rfl)
            have HNa := hid (show (NN + 8) * 1 ≤ 140737488355328 by omega)
            have HNb := hid (show NN + 8 ≤ maxLen by unfold maxLen; omega)
            clear hNl hNN HO
            refine (rbytes_any 0 wr (by decide)).mono ?_
            rintro e' wb ⟨gb, rfl, hgb, hrb, hbb⟩
            have HBb := hid (HBW.out.trans (hbb.mono HBW.out.size))
            have HOb := hid (own_below HOn.out hbb)
            have HCb := hid (show Cel wb (some ⟨gb, 0, none⟩) 8 ((leB 0 8).map B8) by have h9 := hrb.celB; rwa [leB_len] at h9)
            have HZb := hid HBb.out.size
            clear hgb hrb hbb HOn HBW
            go_wp2_with (at_builtin; go_must (refine wpList_ap1 Tryd.underlying29 infoBy rfl rfl _ _ rfl w5.heap.size _ NN ((numsB ([argv.length] ++ atsL (top20 - (txtB argv env path).length) argv ++ [0] ++ atsL (top20 - (txtB argv env path).length + (catZ argv).length) env)).map B8) ((leB 0 8).map B8) rfl (some ⟨gb, 0, none⟩) 8 8 rfl HOb.out HCb.out (b8_ones _) (fun h => by cases h) HNa.out HNb.out HZb.out ?_; intro v9 w9 hown hgrow hb9; have HO9 := hid hown; have HB9 := hid hb9; clear hown hgrow hb9))
            have HO := hid (ownBy_app (c := numsB (headN argv env path)) HO9.out (by unfold headN; rw [numsB_app _ [0], numsB_one]))
            have HBW := hid (HBb.out.trans HB9.out)
            clear HO9 HB9 HBb HOb HCb HZb HNa HNb
            have HHL := hid (show (headN argv env path).length ≤ 67 by have := HL1.out; have := HL2.out; unfold headN; simp only [List.length_append, atsL_len, List.length_cons, List.length_nil]; omega)
            clear HAU HEU HAL HEL HA5 HE5
            go_wp2_with fail
            rename World => wB
            go_loopw [16, 19] (fun v i wr => ∃ k : Nat, k ≤ aux.length ∧ i = .int .i64 k ∧ OwnBy wr w5.heap.size v (numsB (headN argv env path ++ auxN (aux.take k))) ∧ Below w5.heap.size w5 wr) (fun _ i _ => aux.length - (intOf i).toNat)
            case atStart => exact ⟨0, Nat.zero_le _, rfl, by rw [List.take_zero]; show OwnBy _ _ _ (numsB (headN argv env path ++ [])); rw [List.append_nil]; exact HO.out, HBW.out⟩
            case round =>
              obtain ⟨k, hk, rfl, hown, hbw⟩ := hrel
              clear HO HBW
              have HO := hid hown
              have HBW := hid hbw
              clear hown hbw
              by_cases hlt : k < aux.length
              · have d1 : decide ((k : Int) < (aux.length : Int)) = true := by simp; omega
                have d1n : decide (k < aux.length) = true := by simp; omega
                have hbw1 := bthen HB5.out HBW.out
                obtain ⟨cb, co, rfl, hx0, hx1⟩ := axs_at (Rk.below' HC.out hbw1) hlt
                have HX := hid (H64.out _ (List.getElem_mem hlt))
                have HAT := hid (auxN_take hlt)
                have HCX := hid (fun (ww : World) (hb : Below w5.heap.size w5 ww) => (show ww.cell? ⟨cb, co + k * 2 + 1, none⟩ = some (.int .u64 ((aux[k].2 : Nat) : Int)) by
                  obtain ⟨b9, o9, e9, _, h9⟩ := axs_at (Rk.below' HC.out (bthen HB5.out hb)) hlt
                  cases e9; exact h9))
                have HLT := hid (show k < 16 by have := HL3.out; omega)
                have hk16 : k < 16 := HLT.out
                generalize aux[k] = p at *
                obtain ⟨pk, pv⟩ := p
                simp only at hx0 hx1
                clear hbw1 hx1
                go_wp2_with fail
                obtain ⟨NN, hNN⟩ : ∃ NN, NN = (numsB (headN argv env path ++ auxN (aux.take k))).length := ⟨_, rfl⟩
                have hNl : NN ≤ 100000 := by have := HHL.out; have := HL3.out; rw [hNN, numsB_len]; simp only [List.length_append, List.length_cons, List.length_nil, List.length_take, auxN_len]; omega
                have HOn := hid (own_ext HO.out hNN.symm rfl)
                have HNa := hid (show (NN + 8) * 1 ≤ 140737488355328 by omega)
                have HNb := hid (show NN + 8 ≤ maxLen by unfold maxLen; omega)
                clear hNl hNN HO
                refine (rbytes_any pk wr HX.out.1).mono ?_
                rintro e' wb ⟨gb, rfl, hgb, hrb, hbb⟩
                have HBb := hid (HBW.out.trans (hbb.mono HBW.out.size))
                have HOb := hid (own_below HOn.out hbb)
                have HCb := hid (show Cel wb (some ⟨gb, 0, none⟩) 8 ((leB pk 8).map B8) by have h9 := hrb.celB; rwa [leB_len] at h9)
                have HZb := hid HBb.out.size
                clear hgb hrb hbb HOn HBW
                go_wp2_with (at_builtin; go_must (refine wpList_ap1 Tryd.underlying29 infoBy rfl rfl _ _ rfl w5.heap.size _ NN ((numsB (headN argv env path ++ auxN (aux.take k))).map B8) ((leB pk 8).map B8) rfl (some ⟨gb, 0, none⟩) 8 8 rfl HOb.out HCb.out (b8_ones _) (fun h => by cases h) HNa.out HNb.out HZb.out ?_; intro v9 w9 hown hgrow hb9; have HO9 := hid hown; have HB9 := hid hb9; have hx1 := HCX.out w9 (HBb.out.trans hb9); clear hown hgrow hb9))
                have HO := hid (ownBy_app (c := numsB (headN argv env path ++ auxN (aux.take k) ++ [pk])) HO9.out (by rw [numsB_app _ [pk], numsB_one]))
                have HBW := hid (HBb.out.trans HB9.out)
                clear HO9 HB9 HBb HOb HCb HZb HNa HNb
                obtain ⟨NN, hNN⟩ : ∃ NN, NN = (numsB (headN argv env path ++ auxN (aux.take k) ++ [pk])).length := ⟨_, rfl⟩
                have hNl : NN ≤ 100000 := by have := HHL.out; have := HL3.out; rw [hNN, numsB_len]; simp only [List.length_append, List.length_cons, List.length_nil, List.length_take, auxN_len]; omega
                have HOn := hid (own_ext HO.out hNN.symm rfl)
                have HNa := hid (show (NN + 8) * 1 ≤ 140737488355328 by omega)
                have HNb := hid (show NN + 8 ≤ maxLen by unfold maxLen; omega)
                clear hNl hNN HO
                refine (rbytes_any pv w9 HX.out.2).mono ?_
                rintro e' wb ⟨gb, rfl, hgb, hrb, hbb⟩
                have HBb := hid (HBW.out.trans (hbb.mono HBW.out.size))
                have HOb := hid (own_below HOn.out hbb)
                have HCb := hid (show Cel wb (some ⟨gb, 0, none⟩) 8 ((leB pv 8).map B8) by have h9 := hrb.celB; rwa [leB_len] at h9)
                have HZb := hid HBb.out.size
                clear hgb hrb hbb HOn HBW
                go_wp2_with (at_builtin; go_must (refine wpList_ap1 Tryd.underlying29 infoBy rfl rfl _ _ rfl w5.heap.size _ NN ((numsB (headN argv env path ++ auxN (aux.take k) ++ [pk])).map B8) ((leB pv 8).map B8) rfl (some ⟨gb, 0, none⟩) 8 8 rfl HOb.out HCb.out (b8_ones _) (fun h => by cases h) HNa.out HNb.out HZb.out ?_; intro v9 w9 hown hgrow hb9; have HO9 := hid hown; have HB9 := hid hb9; clear hown hgrow hb9))
                have HO := hid (ownBy_app (c := numsB (headN argv env path ++ auxN (aux.take (k + 1)))) HO9.out (by rw [HAT.out, ← numsB_one, ← numsB_app]; simp))
                have HBW := hid (HBb.out.trans HB9.out)
                clear HO9 HB9 HBb HOb HCb HZb HNa HNb
                go_roundw
                case rel => exact ⟨k + 1, by omega, by go_num, HO.out, HBW.out⟩
                case measure => simp [intOf]; omega
              · have d1 : decide ((k : Int) < (aux.length : Int)) = false := by simp; omega
                have d1n : decide (k < aux.length) = false := by simp; omega
                have HTK := hid (show aux.take k = aux from List.take_of_length_le (by omega))
                rw [HTK.out] at HO
                clear HTK hlt
                go_wp2_with fail
                have HN5c := hid (fun (ww : World) (hb : Below w5.heap.size w5 ww) => (show ww.cell? ⟨G0, 0, none⟩ = some (.int .u64 ((top20 - (path.length + 9) : Nat) : Int)) from (HN5.out.below hb HN5.out.lt).cell 0 (by simp [u64s])))
                have HPXU := hid (show top20 - (path.length + 9) < 18446744073709551616 by unfold top20; omega)
                obtain ⟨NN, hNN⟩ : ∃ NN, NN = (numsB (headN argv env path ++ auxN aux)).length := ⟨_, rfl⟩
                have hNl : NN ≤ 100000 := by have := HHL.out; have := HL3.out; rw [hNN, numsB_len]; simp only [List.length_append, List.length_cons, List.length_nil, List.length_take, auxN_len]; omega
                have HOn := hid (own_ext HO.out hNN.symm rfl)
                have HNa := hid (show (NN + 8) * 1 ≤ 140737488355328 by omega)
                have HNb := hid (show NN + 8 ≤ maxLen by unfold maxLen; omega)
                clear hNl hNN HO
                refine (rbytes_any 31 wr (by decide)).mono ?_
                rintro e' wb ⟨gb, rfl, hgb, hrb, hbb⟩
                have HBb := hid (HBW.out.trans (hbb.mono HBW.out.size))
                have HOb := hid (own_below HOn.out hbb)
                have HCb := hid (show Cel wb (some ⟨gb, 0, none⟩) 8 ((leB 31 8).map B8) by have h9 := hrb.celB; rwa [leB_len] at h9)
                have HZb := hid HBb.out.size
                clear hgb hrb hbb HOn HBW
                go_wp2_with (at_builtin; go_must (refine wpList_ap1 Tryd.underlying29 infoBy rfl rfl _ _ rfl w5.heap.size _ NN ((numsB (headN argv env path ++ auxN aux)).map B8) ((leB 31 8).map B8) rfl (some ⟨gb, 0, none⟩) 8 8 rfl HOb.out HCb.out (b8_ones _) (fun h => by cases h) HNa.out HNb.out HZb.out ?_; intro v9 w9 hown hgrow hb9; have HO9 := hid hown; have HB9 := hid hb9; have hn0 := HN5c.out w9 (HBb.out.trans hb9); clear hown hgrow hb9))
                have HO := hid (ownBy_app (c := numsB (headN argv env path ++ auxN aux ++ [31])) HO9.out (by rw [numsB_app _ [31], numsB_one]))
                have HBW := hid (HBb.out.trans HB9.out)
                clear HO9 HB9 HBb HOb HCb HZb HNa HNb
                obtain ⟨NN, hNN⟩ : ∃ NN, NN = (numsB (headN argv env path ++ auxN aux ++ [31])).length := ⟨_, rfl⟩
                have hNl : NN ≤ 100000 := by have := HHL.out; have := HL3.out; rw [hNN, numsB_len]; simp only [List.length_append, List.length_cons, List.length_nil, List.length_take, auxN_len]; omega
                have HNN := hid hNN
                have HOn := hid (own_ext HO.out hNN.symm rfl)
                have HNa := hid (show (NN + 8) * 1 ≤ 140737488355328 by omega)
                have HNb := hid (show NN + 8 ≤ maxLen by unfold maxLen; omega)
                have HNc := hid (show (NN + 8 + 16) * 1 ≤ 140737488355328 by omega)
                have HNd := hid (show NN + 8 + 16 ≤ maxLen by unfold maxLen; omega)
                have HNe := hid (show 0 < NN + 8 by omega)
                clear hNl hNN HO
                refine (rbytes_any (top20 - (path.length + 9)) w9 HPXU.out).mono ?_
                rintro e' wb ⟨gb, rfl, hgb, hrb, hbb⟩
                have HBb := hid (HBW.out.trans (hbb.mono HBW.out.size))
                have HOb := hid (own_below HOn.out hbb)
                have HCb := hid (show Cel wb (some ⟨gb, 0, none⟩) 8 ((leB (top20 - (path.length + 9)) 8).map B8) by have h9 := hrb.celB; rwa [leB_len] at h9)
                have HZb := hid HBb.out.size
                clear hgb hrb hbb HOn HBW
                go_wp2_with (first | (at_builtin; refine wpList_ap1 Tryd.underlying29 infoBy rfl rfl _ _ rfl w5.heap.size _ NN ((numsB (headN argv env path ++ auxN aux ++ [31])).map B8) ((leB (top20 - (path.length + 9)) 8).map B8) rfl (some ⟨gb, 0, none⟩) 8 8 rfl HOb.out HCb.out (b8_ones _) (fun h => by cases h) HNa.out HNb.out HZb.out ?_; intro v9 w9 hown hgrow hb9; have HO9 := hid hown; have HB9 := hid hb9; have HZ9 := hid (HBb.out.trans hb9).size; clear hown hgrow hb9) | (at_builtin; go_must (refine wpList_apZ Tryd.underlying29 Tryd.underlying3 infoBy rfl rfl rfl _ _ rfl w5.heap.size _ (NN + 8) 16 ((numsB (headN argv env path ++ auxN aux ++ [31])).map B8 ++ (leB (top20 - (path.length + 9)) 8).map B8) rfl rfl HO9.out HNe.out (by decide) HNd.out HNc.out HZ9.out ?_; intro vA wz hown hgrow hbA; have HOA := hid hown; have HBA := hid hbA; clear hown hgrow hbA)))
                have HBZ := hid (HBb.out.trans (HB9.out.trans HBA.out))
                have HOZ := hid (show OwnBy wz w5.heap.size vA (numsB (vecN argv env aux path)) by
                  refine own_ext HOA.out ?_ ?_
                  · rw [HNN.out, numsB_len, numsB_len, vecN_eq]; simp only [List.length_append, List.length_cons, List.length_nil]; omega
                  · have e0 : numsB (vecN argv env aux path) = numsB (headN argv env path ++ auxN aux ++ [31]) ++ leB (top20 - (path.length + 9)) 8 ++ List.replicate 16 0 := by
                      rw [vecN_eq, show [31, top20 - (path.length + 9), 0, 0] = [31] ++ [top20 - (path.length + 9)] ++ [0, 0] from rfl, ← List.append_assoc, ← List.append_assoc, numsB_app _ [0, 0], numsB_app _ [top20 - (path.length + 9)], numsB_one]
                      rfl
                    rw [e0, List.map_append, List.map_append]
                    congr 1)
                clear HOA HBA HO9 HB9 HZ9 HBb HOb HCb HZb HNa HNb HNc HNd HNe HNN
                obtain ⟨q, hq⟩ : ∃ q, q = numN argv env aux * 8 := ⟨_, rfl⟩
                obtain ⟨T, hT⟩ : ∃ T, T = (txtB argv env path).length := ⟨_, rfl⟩
                obtain ⟨N, hN⟩ : ∃ N, N = allN argv env aux path := ⟨_, rfl⟩
                have hNq : N = (q + T + 15) / 16 * 16 := by rw [hN, hq, hT]; rfl
                obtain ⟨PAD, hPAD⟩ : ∃ PAD, PAD = N - (q + T) := ⟨_, rfl⟩
                have hqb : q ≤ 2000 := by have h1 := HL1.out; have h2 := HL2.out; have h3 := HL3.out; rw [hq]; unfold numN; omega
                have hTb : T ≤ 20000 := by have h1 := HTA.out; have h2 := HTE.out; have h3 := HL1.out; have h4 := HL2.out; have h5 := HTL.out; have h6 := H200.out; omega
                have HQ := hid hq
                have HTT := hid hT
                have HNN := hid hN
                have HNQ := hid hNq
                have HPAD := hid hPAD
                have HQB := hid hqb
                have HTB := hid hTb
                clear hq hT hN hNq hPAD hqb hTb HHL
                rename World => wC
                go_loopw [16] (fun v wr => ∃ m : Nat, m ≤ PAD ∧ OwnBy wr w5.heap.size v (numsB (vecN argv env aux path) ++ List.replicate m 0) ∧ Below w5.heap.size w5 wr) (fun v _ => q + PAD + 1 - lenV v)
                case atStart => exact ⟨0, Nat.zero_le _, by rw [List.replicate_zero, List.append_nil]; exact HOZ.out, HBZ.out⟩
                case round =>
                  obtain ⟨m, hm, hown, hbw⟩ := hrel
                  clear HOZ HBZ
                  have hown2 := own_ext hown (show (numsB (vecN argv env aux path) ++ List.replicate m 0).length = q + m by rw [List.length_append, numsB_len, vecN_len, List.length_replicate, HQ.out]; omega) rfl
                  clear hown
                  obtain ⟨va, vc, rfl⟩ := own_hd2 hown2
                  obtain ⟨QM, hQM⟩ : ∃ QM, QM = q + m := ⟨_, rfl⟩
                  rw [← hQM] at hown2 ⊢
                  have HO := hid hown2
                  have HBW := hid hbw
                  obtain ⟨gt, ct, hrt, hot⟩ := (HT5.out.below hbw (Nat.le_refl _)).has
                  have x0 : wr.cell? ⟨w1.heap.size, 0, none⟩ = some (.slice (some ⟨gt, 0, none⟩) T ct) := by rw [HTT.out]; exact hrt.cell 0 (by simp)
                  have hlt := hrt.lt
                  have hq1 := HNQ.out
                  have hq2 := HPAD.out
                  have hq3 := HQB.out
                  have hq4 := HTB.out
                  clear hown2 hbw
                  by_cases hmp : m < PAD
                  · have dm : (((QM : Int) + (T : Int)) % 16 != 0) = true := by simp; omega
                    have dm2 : (((QM : Int) + (T : Int)).tmod 16 != 0) = true := by rw [Int.tmod_eq_emod_of_nonneg (by omega)]; simp; omega
                    have es : IntKind.i64.wrap ((QM : Int) + (T : Int)) = (QM : Int) + (T : Int) := IntWalk.i64_in _ (by omega)
                    have HNa := hid (show (QM + 1) * 1 ≤ 140737488355328 by omega)
                    have HNb := hid (show QM + 1 ≤ maxLen by unfold maxLen; omega)
                    have HO1 := hid (fun o => own_below HO.out (@bal wr o))
                    have HC1 := hid (cel_one wr 5 (.int .u8 0))
                    have HZ1' := hid (show w5.heap.size ≤ (wr.alloc (.cells #[.int .u8 0] 5)).heap.size by rw [World.size_alloc]; have h9 := HBW.out.size; omega)
                    have HONE := hid (show ∀ u ∈ [Value.int .u8 0], u.oneCell' = true by intro u hu; rw [List.mem_singleton.1 hu]; rfl)
                    have HQM := hid hQM
                    have HMP := hid hmp
                    clear hq1 hq2 hq3 hq4 hot hrt hQM hmp
                    go_wp2_with (at_builtin; go_must (refine wpList_ap1 Tryd.underlying29 infoBy rfl rfl _ _ rfl w5.heap.size (.slice va QM vc) QM ((numsB (vecN argv env aux path) ++ List.replicate m 0).map B8) [.int .u8 0] rfl (some ⟨wr.heap.size, 0, none⟩) 1 1 rfl (HO1.out _) HC1.out HONE.out (fun h => by cases h) HNa.out HNb.out HZ1'.out ?_; intro v9 w9 hown hgrow hb9; have HO9 := hid hown; have HB9 := hid hb9; obtain ⟨v9a, v9c, rfl⟩ := own_hd2 hown; clear hown hgrow hb9))
                    clear es
                    go_roundw
                    case rel =>
                      refine ⟨m + 1, HMP.out, ?_, (HBW.out.alloc HBW.out.size _).trans HB9.out⟩
                      exact ownBy_app (b := [0]) HO9.out (by rw [List.replicate_succ', List.append_assoc])
                    case measure => have h1 := HMP.out; have h2 := HQM.out; simp [lenV]; omega
                  · have hme : m = PAD := by omega
                    have dm : (((QM : Int) + (T : Int)) % 16 != 0) = false := by simp; omega
                    have dm2 : (((QM : Int) + (T : Int)).tmod 16 != 0) = false := by rw [Int.tmod_eq_emod_of_nonneg (by omega)]; simp; omega
                    have es : IntKind.i64.wrap ((QM : Int) + (T : Int)) = (QM : Int) + (T : Int) := IntWalk.i64_in _ (by omega)
                    have hQN : QM + T = N := by omega
                    obtain ⟨gt2, ct2, he2, hce, _⟩ := hot.cel
                    simp only [Value.slice.injEq, Option.some.injEq, Addr.mk.injEq, and_true, true_and] at he2
                    obtain ⟨rfl, rfl⟩ := he2
                    rw [← HTT.out] at hce
                    have HCE := hid hce
                    have HNa := hid (show (QM + T) * 1 ≤ 140737488355328 by omega)
                    have HNb := hid (show QM + T ≤ maxLen by unfold maxLen; omega)
                    have HZ1' := hid HBW.out.size
                    have HQN := hid hQN
                    have HONE := hid (b8_ones (txtB argv env path))
                    have HLB := hid (show numsB (vecN argv env aux path) ++ List.replicate m 0 ++ txtB argv env path = layB argv env aux path by unfold layB; rw [hme, HPAD.out, HNN.out, HQ.out, HTT.out, List.append_assoc])
                    have e9 : IntKind.u64.wrap (N : Int) = (N : Int) := IntWalk.u64_in _ (by omega)
                    have hN3 : N ≤ 30000 := by omega
                    have HN3 := hid hN3
                    clear hq1 hq2 hq3 hq4 hot hrt hQM hmp hme hce hQN hN3
                    by_cases hbig : 16384 < N
                    · have HE := hid (layE_big HCK0.out (by rw [← HNN.out]; exact hbig))
                      have d9 : decide ((16384 : Int) < (N : Int)) = true := by simp; omega
                      have d9n : decide (16384 < N) = true := by simp; omega
                      clear hbig
                      go_wp2_with (at_builtin; go_must (refine wpList_ap1 Tryd.underlying29 infoBy rfl rfl _ _ rfl w5.heap.size (.slice va QM vc) QM ((numsB (vecN argv env aux path) ++ List.replicate m 0).map B8) ((txtB argv env path).map B8) rfl (some ⟨gt, 0, none⟩) T ct rfl HO.out HCE.out HONE.out (fun h => by cases h) HNa.out HNb.out HZ1'.out ?_; intro v9 w9 hown hgrow hb9; rw [HQN.out] at hown; obtain ⟨v9a, v9c, rfl⟩ := own_hd2 hown; have HO9 := hid hown; have HB9 := hid (bthen HB5.out (HBW.out.trans hb9)); clear hown hgrow hb9))
                      go_ret3
                      exact rlP_no HE.out (by decide) HB9.out
                    · have HE := hid (layE_ok HCK0.out (by rw [← HNN.out]; exact hbig))
                      have d9 : decide ((16384 : Int) < (N : Int)) = false := by simp; omega
                      have d9n : decide (16384 < N) = false := by simp; omega
                      have es9 : IntKind.u64.wrap (140737488351232 - (N : Int)) = ((top20 - N : Nat) : Int) := by rw [IntWalk.u64_in _ (by omega)]; unfold top20; omega
                      clear hbig
                      go_wp2_with (at_builtin; go_must (refine wpList_ap1 Tryd.underlying29 infoBy rfl rfl _ _ rfl w5.heap.size (.slice va QM vc) QM ((numsB (vecN argv env aux path) ++ List.replicate m 0).map B8) ((txtB argv env path).map B8) rfl (some ⟨gt, 0, none⟩) T ct rfl HO.out HCE.out HONE.out (fun h => by cases h) HNa.out HNb.out HZ1'.out ?_; intro v9 w9 hown hgrow hb9; rw [HQN.out] at hown; obtain ⟨v9a, v9c, rfl⟩ := own_hd2 hown; have HO9 := hid hown; have HB9 := hid (bthen HB5.out (HBW.out.trans hb9)); clear hown hgrow hb9))
                      go_ret3
                      refine .inr ⟨HE.out, v9a, v9c, ?_, ?_, HB9.out⟩
                      · rw [← HNN.out]; rfl
                      · have h9 := own_ext HO9.out rfl (show _ = (layB argv env aux path).map B8 by rw [← HLB.out]; exact List.map_append.symm)
                        obtain ⟨za, zc, he9, hc9, _⟩ := own_cel h9
                        simp only [Value.slice.injEq, true_and] at he9
                        obtain ⟨rfl, rfl⟩ := he9
                        rw [← HNN.out]
                        refine ⟨by rw [layB_len, ← HNN.out], fun i hi => ?_⟩
                        obtain ⟨b9, o9, e9', hc9'⟩ := hc9.cell i (by simpa using hi)
                        exact ⟨b9, o9, e9', by rw [hc9']; simp [B8]⟩
  · have hne : (chkS argv env aux path != 0) = true := by simpa using hck
    have HE := hid (layE_chk hck)
    have HN := hid hck
    clear hck
    generalize chkS argv env aux path = er at *
    go_enter Tryd.func11, Tryd.ntmps11
    go_wp2_with fail
    refine (HCK.out).mono ?_
    rintro e' w0 ⟨rfl, hw⟩
    subst hw
    go_wp2_with fail
    go_ret3
    exact rlP_no HE.out HN.out (Below.refl _ _)
end Go.Proofs.YtihaakcfegelkaaDoor
