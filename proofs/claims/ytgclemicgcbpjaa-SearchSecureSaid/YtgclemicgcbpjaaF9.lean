/- vfs: a node out of an entry. -/
import Derived.Test.YtgclemicgcbpjaaF8
import Derived.Test.YtgclemicgcbpjaaAN
import Derived.BigRegion
import Derived.RegionTactic
import Derived.Deep.RegionWith
namespace Go.Proofs.Ytgclemicgcbpjaa
open Go.RowKit Go.Sort

def headC (x : EN) (i : Int) (path : BL) (pb : Nat) : List Value := [.int .i64 i, .string (ba path), .pointer (some ⟨pb, 0, none⟩), .int .u8 x.kind, .int .u16 x.mode, .int .u32 x.uid, .int .u32 x.gid, .int .i64 x.data.length]
structure NewAt (w w' : World) (x : EN) (i : Int) (path : BL) (pb b m : Nat) : Prop where
  lo : w.heap.size ≤ b
  hi : b < w'.heap.size
  dir : x.kind = 2 → Row w' b 98 (headC x i path pb ++ [.map (some m)]) ∧ NMap w' m [] ∧ w.heap.size ≤ m
  link : x.kind = 3 → Row w' b 119 (headC x i path pb ++ [.string (ba x.to)])
  file : x.kind ≠ 2 → x.kind ≠ 3 → ∃ v, Row w' b 94 (headC x i path pb ++ [v]) ∧ w'.ownsRow w.heap.size 5 1 v x.data.length (x.data.map B8)
def NewPost (w : World) (x : EN) (i : Int) (path : BL) (pb : Nat) (e : Ending) (w' : World) : Prop := ∃ b m, e = .returned (ndV (ndT x.kind, b)) ∧ NewAt w w' x i path pb b m ∧ Below w.heap.size w w'

set_option maxHeartbeats 2000000 in
theorem newNode_dir (x : EN) (i : Int) (path : BL) (pb : Nat) (w : World) (hx : EnOk w x) (hk : x.kind = 2) :
    Calls Try.prog 61 #[.agg x.cs.toArray, .agg #[.int .i64 i, .string (ba path), .pointer (some ⟨pb, 0, none⟩), .int .u8 0, .int .u16 0, .int .u32 0, .int .u32 0, .int .i64 0]] w (NewPost w x i path pb) := by
  have hmm := @run_makeMap Try.prog
  have HX := hid hx
  have HB1 := hid (show Below w.heap.size w (w.alloc (.cells x.cs.toArray 54)) from bal _)
  clear hx
  unfold EN.cs at HB1 ⊢
  have k2 : (x.kind == 2) = true := by rw [hk]; rfl
  have HK := hid hk
  clear hk
  go_enter Try.func61, Try.ntmps61
  go_wp2_with fail
  go_ret
  refine ⟨w.heap.size + 1 + 1 + 1, w.heap.size + 1 + 1, ?_, ?_, ?_⟩
  · rw [HK.out]; rfl
  · refine ⟨by omega, by simp, fun _ => ⟨?_, ?_, by omega⟩, fun h => (by rw [HK.out] at h; cases h), fun h => absurd HK.out h⟩
    · have := Row.new (((w.alloc (.cells x.cs.toArray 54)).alloc (.cells (headC x i path pb).toArray 88)).alloc (.map #[] 0)) 98 (headC x i path pb ++ [.map (some (w.heap.size + 1 + 1))])
      simp only [World.size_alloc] at this
      exact this
    · have h1 := NMap.made ((w.alloc (.cells x.cs.toArray 54)).alloc (.cells (headC x i path pb).toArray 88))
      have h2 := h1.below (bal (.cells (headC x i path pb ++ [Value.map (some (w.heap.size + 1 + 1))]).toArray 98))
      simp only [World.size_alloc] at h2
      exact h2
  · exact ((((bal _).alloc (by simp) _).alloc (by simp; omega) _).alloc (by simp; omega) _)
set_option maxHeartbeats 2000000 in
theorem newNode_link (x : EN) (i : Int) (path : BL) (pb : Nat) (w : World) (hx : EnOk w x) (hk : x.kind = 3) :
    Calls Try.prog 61 #[.agg x.cs.toArray, .agg #[.int .i64 i, .string (ba path), .pointer (some ⟨pb, 0, none⟩), .int .u8 0, .int .u16 0, .int .u32 0, .int .u32 0, .int .i64 0]] w (NewPost w x i path pb) := by
  have hmm := @run_makeMap Try.prog
  have HX := hid hx
  have HB1 := hid (show Below w.heap.size w (w.alloc (.cells x.cs.toArray 54)) from bal _)
  clear hx
  unfold EN.cs at HB1 ⊢
  have k2 : (x.kind == 2) = false := by rw [hk]; rfl
  have k3 : (x.kind == 3) = true := by rw [hk]; rfl
  have HK := hid hk
  clear hk
  go_enter Try.func61, Try.ntmps61
  go_wp2_with fail
  go_ret
  refine ⟨w.heap.size + 1 + 1, 0, ?_, ?_, ?_⟩
  · rw [HK.out]; rfl
  · refine ⟨by omega, by simp, fun h => (by rw [HK.out] at h; cases h), fun _ => ?_, fun _ h => absurd HK.out h⟩
    have := Row.new ((w.alloc (.cells x.cs.toArray 54)).alloc (.cells (headC x i path pb).toArray 88)) 119 (headC x i path pb ++ [.string (ba x.to)])
    simp only [World.size_alloc] at this
    exact this
  · exact (((bal _).alloc (by simp) _).alloc (by simp; omega) _)
theorem infoU8 : (Try.prog.info? 5).map (fun i => (i.zero, i.size, i.bytes)) = some (some (.int .u8 0), 1, 1) := by kernel_rfl
theorem Row.eight {w : World} {g : Nat} {E : TypeId} {a b c d e f i j : Value} (h : Row w g E [a, b, c, d, e, f, i, j]) : (w.cell? ⟨g, 0, none⟩ = some a ∧ w.cell? ⟨g, 1, none⟩ = some b ∧ w.cell? ⟨g, 2, none⟩ = some c ∧ w.cell? ⟨g, 3, none⟩ = some d ∧ w.cell? ⟨g, 4, none⟩ = some e) ∧ w.cell? ⟨g, 5, none⟩ = some f ∧ w.cell? ⟨g, 6, none⟩ = some i ∧ w.cell? ⟨g, 7, none⟩ = some j :=
  ⟨⟨h.cell 0 (by simp), h.cell 1 (by simp), h.cell 2 (by simp), h.cell 3 (by simp), h.cell 4 (by simp)⟩, h.cell 5 (by simp), h.cell 6 (by simp), h.cell 7 (by simp)⟩
set_option maxRecDepth 100000 in
set_option maxHeartbeats 4000000 in
theorem newNode_file (x : EN) (i : Int) (path : BL) (pb : Nat) (w : World) (hx : EnOk w x) (hk : x.kind ≠ 2) (hk3 : x.kind ≠ 3) :
    Calls Try.prog 61 #[.agg x.cs.toArray, .agg #[.int .i64 i, .string (ba path), .pointer (some ⟨pb, 0, none⟩), .int .u8 0, .int .u16 0, .int .u32 0, .int .u32 0, .int .i64 0]] w (NewPost w x i path pb) := by
  have hmm := @run_makeMap Try.prog
  have HX := hid hx
  have HB1 := hid (show Below w.heap.size w (w.alloc (.cells x.cs.toArray 54)) from bal _)
  clear hx
  unfold EN.cs at HB1 ⊢
  have k2 : (x.kind == 2) = false := by simpa using hk
  have k3 : (x.kind == 3) = false := by simpa using hk3
  have HK2 := hid hk
  have HK3 := hid hk3
  clear hk hk3
  go_enter Try.func61, Try.ntmps61
  go_wp2_with fail
  obtain ⟨W1, hW1⟩ : ∃ W1, W1 = (w.alloc (.cells #[.string (ba x.path), .int .u8 x.kind, .int .u16 x.mode, .int .u32 x.uid, .int .u32 x.gid, .slice x.a x.data.length x.c, .string (ba x.to)] 54)).alloc (.cells #[.int .i64 i, .string (ba path), .pointer (some ⟨pb, 0, none⟩), .int .u8 x.kind, .int .u16 x.mode, .int .u32 x.uid, .int .u32 x.gid, .int .i64 (x.data.length : Int)] 88) := ⟨_, rfl⟩
  have hr0 : Row W1 w.heap.size 54 [.string (ba x.path), .int .u8 x.kind, .int .u16 x.mode, .int .u32 x.uid, .int .u32 x.gid, .slice x.a x.data.length x.c, .string (ba x.to)] := by
    rw [hW1]; exact (Row.new w 54 [.string (ba x.path), .int .u8 x.kind, .int .u16 x.mode, .int .u32 x.uid, .int .u32 x.gid, .slice x.a x.data.length x.c, .string (ba x.to)]).alloc _
  have hr1 : Row W1 (w.heap.size + 1) 88 [.int .i64 i, .string (ba path), .pointer (some ⟨pb, 0, none⟩), .int .u8 x.kind, .int .u16 x.mode, .int .u32 x.uid, .int .u32 x.gid, .int .i64 (x.data.length : Int)] := by
    have := Row.new (w.alloc (.cells [.string (ba x.path), .int .u8 x.kind, .int .u16 x.mode, .int .u32 x.uid, .int .u32 x.gid, .slice x.a x.data.length x.c, .string (ba x.to)].toArray 54)) 88 [.int .i64 i, .string (ba path), .pointer (some ⟨pb, 0, none⟩), .int .u8 x.kind, .int .u16 x.mode, .int .u32 x.uid, .int .u32 x.gid, .int .i64 (x.data.length : Int)]
    rw [World.size_alloc] at this
    rw [hW1]; exact this
  have HW1 := hid (show Below w.heap.size w W1 by rw [hW1]; exact (bal _).alloc (by simp) _)
  have hs1 : W1.heap.size = w.heap.size + 1 + 1 := by rw [hW1]; simp
  have HS1 := hid hs1
  rw [← hW1]
  clear hW1 hs1
  have HX1 := hid (HX.out.below HW1.out)
  have HN1 := hid (show ∀ ad, x.a = some ad → ∀ j u, (x.data.map B8)[j]? = some u → W1.drew.cell? (ad.add j) = some u from HX1.out.byt.news)
  have HN2 := hid (show x.a = none → x.data.length = 0 ∧ x.c = 0 from fun h => by
    refine ⟨?_, HX1.out.nil h⟩
    rcases Nat.eq_zero_or_pos x.data.length with h0 | h0
    · exact h0
    · obtain ⟨_, _, e, _⟩ := HX1.out.byt.some_of h0
      rw [h] at e; cases e)
  have HN3 := hid (show (x.data.map B8).length = x.data.length * 1 by simp)
  have HN4 := hid (show x.data.length ≤ maxLen by have := HX1.out.data; unfold maxLen; omega)
  have HN5 := hid (show x.data.length * 1 ≤ 140737488355328 by have := HX1.out.data; omega)
  have HN6 := hid (b8_one x.data)
  have HN7 := hid (show some (w.heap.size + 1) ≠ none from fun e => by cases e)
  have HR1 := hid hr1
  obtain ⟨i0, hi0, hz0, hz1, hz2⟩ := info_parts infoU8
  have a0 := hr0.cell 5 (by simp)
  have c0 := hr1.cell 0 (by simp)
  have c1 := hr1.cell 1 (by simp)
  have c2 := hr1.cell 2 (by simp)
  have c3 := hr1.cell 3 (by simp)
  have c4 := hr1.cell 4 (by simp)
  have c5 := hr1.cell 5 (by simp)
  have c6 := hr1.cell 6 (by simp)
  have c7 := hr1.cell 7 (by simp)
  simp only [List.getElem_cons_zero, List.getElem_cons_succ] at a0 c0 c1 c2 c3 c4 c5 c6 c7
  have hl0 := hr0.lt
  have hl1 := hr1.lt
  clear hr0 hr1
  go_region_law (refine step_append_nil (by rfl) _ _ 40 (by rfl) 5 i0 (.int .u8 0) 1 1 Try.underlying40 hi0 hz0 hz1 hz2 rfl (by decide) (by rfl) x.a x.data.length x.c (by rfl) (x.data.map B8) HN3.out HN1.out HN2.out HN6.out HN4.out HN5.out ?_; intro v2 w2 hown hgrow; obtain ⟨a9, c9, rfl, _⟩ := own_cel hown; have hr2 := HR1.out.drew.grown hgrow HN7.out; obtain ⟨⟨d0, d1, d2, d3, d4⟩, d5, d6, d7⟩ := hr2.eight; have hl2 := hr2.lt; have HO := hid hown; have HG := hid hgrow; clear hown hgrow hr2)
  all_goals
    go_wp2_with fail
    go_ret
    have hsz : W1.heap.size ≤ w2.heap.size := HG.out.size
    have hs1 := HS1.out
    refine ⟨w2.heap.size, 0, ?_, ⟨by omega, by simp, fun h => absurd h HK2.out, fun h => absurd h HK3.out, fun _ _ => ⟨.slice a9 x.data.length c9, ?_, ?_⟩⟩, ?_⟩
    · unfold ndT; rw [if_neg HK2.out, if_neg HK3.out]; rfl
    · exact Row.new w2 94 (headC x i path pb ++ [.slice a9 x.data.length c9])
    · exact own_from (HO.out.alloc _) (by show w.heap.size ≤ W1.heap.size; omega)
    · have h1 : Below w.heap.size w w2 := (HW1.out.drew).grown HG.out (by show w.heap.size ≤ W1.heap.size; omega) (fun k e => by cases e)
      exact h1.alloc h1.size _
end Go.Proofs.Ytgclemicgcbpjaa
