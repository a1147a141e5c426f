
/- hostellaw12.works. -/
import Derived.Test.YtaaohcpiideaaaaDoorNa6
import Derived.Test.YtaaohcpiideaaaaDoorNa7
import Derived.Test.YtaaohcpiideaaaaDoorNa8
import Derived.Test.YtaaohcpiideaaaaDoorNa9
import Derived.Test.YtaaohcpiideaaaaDoorSL
namespace Go.Proofs.YtaaohcpiideaaaaDoor
open Go.RowKit Go.Sort Go.Shelf
attribute [local go_sem] Oper.semAt_some

def sg12 : SG := ⟨1, 5, 0, 4194304, 128, 128⟩
theorem ps12_plain : ps12 (stt 13) = some ⟨2, 4194424, 64, [sg12]⟩ := by decide +kernel
theorem psE_plain : psE (stt 13) = 0 := by decide +kernel
theorem psE_short : psE ((stt 13).take 63) = 13 := by decide +kernel
theorem psH_plain : psH (stt 13) = ⟨2, 4194424, 64, [sg12]⟩ := by unfold psH; rw [ps12_plain]; rfl
set_option maxRecDepth 100000 in
set_option maxHeartbeats 8000000 in
theorem works12_any (w : World) (hs : Sizes w) : Calls Tryd.prog 7 #[] w fun e w' => e = .returned (.bool true) ∧ Below w.heap.size w w' := by
  have HS := hid (fun (W : World) (hb : Below w.heap.size w W) => hs.below hb)
  clear hs
  go_enter Tryd.func7, Tryd.ntmps7
  go_wp2_with fail
  refine (plain12_any w).mono ?_
  rintro e' w1 ⟨g, rfl, hB1, hb1⟩
  have HB1 := hid hb1
  have HP := hid (show Calls Tryd.prog 21 #[.slice (some ⟨g, 0, none⟩) 128 128] w1 (ParseP (stt 13) w1) from by
    have h := parse12_any (some ⟨g, 0, none⟩) 128 (stt 13) w1 (HS.out w1 hb1) (by rw [stt_len (by omega)]; exact hB1) (by rw [stt_len (by omega)]; decide) (by rw [stt_len (by omega)]; decide)
    rw [stt_len (by omega)] at h
    exact h)
  clear hB1 hb1
  go_wp2_with fail
  refine HP.out.mono ?_
  intro e2 w2 h2
  obtain ⟨⟨a, c, rfl, hS2⟩, hb2⟩ := (show ParseP _ _ _ _ from h2)
  rw [psH_plain, psE_plain] at *
  have HS2 := hid (show Sgs w2 a 1 [sg12] from hS2)
  have HB2 := hid (HB1.out.trans (hb2.mono HB1.out.size))
  clear h2 hS2 hb2
  go_wp2_with fail
  have HOK := hid (show ∀ s ∈ [sg12], SGok s from fun s hs => by rw [List.mem_singleton.1 hs]; exact ⟨by decide, by decide, by decide, by decide, by decide, by decide, by decide, by decide, by decide, by decide, by decide⟩)
  obtain ⟨W3, hW3⟩ : ∃ W3, W3 = w2.alloc (.cells #[.int .u16 2, .int .u64 4194424, .int .u64 64, .slice a 1 c] 26) := ⟨_, rfl⟩
  have HR3 := hid (show Row W3 w2.heap.size 26 [.int .u16 2, .int .u64 4194424, .int .u64 64, .slice a 1 c] by rw [hW3]; exact Row.new _ _ _)
  have HS3 := hid (show Sgs W3 a 1 [sg12] by rw [hW3]; exact HS2.out.below' (bal _))
  have HB3 := hid (show Below w.heap.size w W3 by rw [hW3]; exact HB2.out.alloc HB2.out.size _)
  rw [← hW3]
  clear hW3
  refine (spanG_any 2 4194424 64 a c [sg12] W3 HS3.out (by decide) HOK.out).mono ?_
  rintro e3 w3 ⟨rfl, hb3⟩
  rw [show (spanG (lds [sg12])).1 = 4194304 by decide +kernel, show (spanG (lds [sg12])).2 = 4198400 by decide +kernel]
  have HB4 := hid (HB3.out.trans (hb3.mono HB3.out.size))
  have HR4 := hid (HR3.out.below hb3 HR3.out.lt)
  have HS4 := hid (HS3.out.below' hb3)
  clear hb3
  go_wp2_with fail
  refine (plain12_any w3).mono ?_
  rintro e' w4 ⟨g2, rfl, hB5, hb5⟩
  have HB5 := hid (HB4.out.trans (hb5.mono HB4.out.size))
  have HR5 := hid (HR4.out.below hb5 HR4.out.lt)
  have HS5 := hid (HS4.out.below' hb5)
  have hsl := slTo .i64 (some ⟨g2, 0, none⟩) 128 128 63 63 rfl (by omega)
  have HP2 := hid (show Calls Tryd.prog 21 #[.slice (some ⟨g2, 0, none⟩) 63 128] w4 (ParseP ((stt 13).take 63) w4) from by
    have e : ((stt 13).take 63).length = 63 := by rw [List.length_take, stt_len (by omega)]; rfl
    have h := parse12_any (some ⟨g2, 0, none⟩) 128 ((stt 13).take 63) w4 (HS.out w4 HB5.out) (by rw [e]; exact hB5.upto (by omega)) (by rw [e]; decide) (by rw [e]; decide)
    rw [e] at h
    exact h)
  clear hB5 hb5
  go_wp2_with fail
  refine HP2.out.mono ?_
  intro e6 w6 h6
  obtain ⟨⟨a6, c6, rfl, hS6⟩, hb6⟩ := (show ParseP _ _ _ _ from h6)
  rw [psE_short]
  generalize psH ((stt 13).take 63) = hd at *
  have HB6 := hid (HB5.out.trans (hb6.mono HB5.out.size))
  have HR6 := hid (HR5.out.below hb6 HR5.out.lt)
  have HS6 := hid (HS5.out.below' hb6)
  obtain ⟨W7, hW7⟩ : ∃ W7, W7 = w6.alloc (.cells #[.int .u16 hd.typ, .int .u64 hd.entry, .int .u64 hd.phoff, .slice a6 hd.sg.length c6] 26) := ⟨_, rfl⟩
  have HW7 := hid hW7
  have HB7 := hid (show Below w.heap.size w W7 by rw [hW7]; exact HB6.out.alloc HB6.out.size _)
  have HR7 := hid (show Row W7 w2.heap.size 26 [.int .u16 2, .int .u64 4194424, .int .u64 64, .slice a 1 c] by rw [hW7]; exact HR6.out.below (bal _) HR6.out.lt)
  have HS7 := hid (show Sgs W7 a 1 [sg12] by rw [hW7]; exact HS6.out.below' (bal _))
  have y0 := HR6.out.cell' 0
  have y1 := HR6.out.cell' 1
  have y2 := HR6.out.cell' 2
  have y3 := HR6.out.cell' 3
  have hlt := HR6.out.lt
  clear h6 hS6 hb6 hW7 hsl
  go_wp2_with fail
  rw [← HW7.out]
  refine (phdr_any 2 4194424 64 a c [sg12] W7 HS7.out (by decide) HOK.out (by decide) (by decide)).mono ?_
  rintro e8 w8 ⟨rfl, hb8⟩
  rw [show phdrG 64 [sg12] = 4194368 by decide +kernel]
  have HB8 := hid (HB7.out.trans (hb8.mono HB7.out.size))
  have HR8 := hid (HR7.out.below hb8 HR7.out.lt)
  have HS8 := hid (HS7.out.below' hb8)
  clear hb8 y0 y1 y2 y3 hlt
  have y0 := HR8.out.cell' 0
  have y1 := HR8.out.cell' 1
  have y2 := HR8.out.cell' 2
  have y3 := HR8.out.cell' 3
  go_wp2_with fail
  refine (loads12_any 2 4194424 64 a c [sg12] w8 HS8.out (by decide)).mono ?_
  rintro e9 w9 ⟨v, rfl, ho, hb9⟩
  obtain ⟨a9, c9, rfl, _, _⟩ := ownG_open ho
  have HB9 := hid (HB8.out.trans (hb9.mono HB8.out.size))
  rw [show (lds [sg12]).length = 1 by decide]
  clear ho hb9
  go_wp2_with fail
  go_ret
  exact ⟨rfl, HB9.out⟩
end Go.Proofs.YtaaohcpiideaaaaDoor
