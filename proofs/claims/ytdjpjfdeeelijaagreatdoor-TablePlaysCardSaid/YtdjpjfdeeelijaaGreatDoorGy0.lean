/- hostellaw09: a struct of a pool, a cache, a table and what is held; what does leaves of all else. -/
import Derived.Test.YtdjpjfdeeelijaaGreatDoorGx9
import Derived.Test.YtdjpjfdeeelijaaGreatDoorGx7
import Derived.Test.YtdjpjfdeeelijaaGreatDoorGx5
namespace Go.Proofs.YtdjpjfdeeelijaaGreatDoor
open Go.RowKit Go.Sort Go.Shelf Go.WideMaps Go.Maps Go.WideShapes Go.WideElems Go.MapKept Go.ChangeMaps
attribute [local go_sem] Oper.semAt_some
/-- The struct in memory. -/
structure OX9 (T:TypeId)(base ob p c tb:Nat)(vh:Value)(hs:List Nat)(w:World):Prop where
 own:Row w ob T [.pointer (some ⟨p,0,none⟩),.pointer (some ⟨c,0,none⟩),.pointer (some ⟨tb,0,none⟩),vh]
 hh:w.ownsRow base 3 1 vh hs.length (hs.map nI9)
 lo:base≤ob
/-- Only blocks of these types turn. -/
def OffX (T:TypeId)(base:Nat)(vh:Value)(w w':World):Prop:=∃ Z:Nat→Prop,EX Z w w'∧∀ k,Z k→base≤k∧((∃ cs,Row w k 34 cs)∨(∃ cs,Row w k T cs)∨(vh.ownBlock=some k∧∃ cs,Row w k 3 cs))
/-- What does leaves. -/
def DoneX (T:TypeId)(base ob p c tb:Nat)(vh:Value)(S:Nat→Prop)(J:World→World→Prop)(hs':List Nat)(v:List Value)(w:World)(e:Ending)(w':World):Prop:=
 e=.returned (.agg v.toArray)∧∃ W wy vh',OffX T base vh w W∧J W wy∧OffX T base vh wy w'∧OX9 T base ob p c tb vh' hs' w'∧EX (fun k=>S k∨k=ob∨vh.ownBlock=some k) w w'∧(∀ k,vh'.ownBlock=some k→vh.ownBlock=some k∨w.heap.size≤k)
section
variable {T:TypeId}{base p c tb ob:Nat}{vh vh':Value}{hs hs':List Nat}{S:Nat→Prop}{J:World→World→Prop}{w w' W wy wz:World}
theorem OX9.below (H:OX9 T base ob p c tb vh hs w)(hb:Below w.heap.size w w'):OX9 T base ob p c tb vh hs w':=⟨H.own.below hb H.own.lt,own_below H.hh hb,H.lo⟩
theorem OX9.ex (H:OX9 T base ob p c tb vh hs w)(he:EX S w w')(hS:∀ k,S k→k≠ob∧vh.ownBlock≠some k):OX9 T base ob p c tb vh hs w':=
 ⟨he.row H.own fun e=>(hS ob e).1 rfl,he.own H.hh fun k e e2=>(hS k e2).2 e,H.lo⟩
theorem OffX.refl (T:TypeId)(base:Nat)(vh:Value)(w:World):OffX T base vh w w:=⟨fun _=>False,EX.refl _,fun _ h=>h.elim⟩
theorem OffX.of_below (hb:Below w.heap.size w w'):OffX T base vh w w':=⟨fun _=>False,EX.of_below hb,fun _ h=>h.elim⟩
theorem OffX.told {b:Nat}{cs:List Value}(hb:base≤b)(he:EX (fun k=>k=b) w w')(hr:Row w b 34 cs):OffX T base vh w w':=⟨_,he,fun k e=>⟨by rw [e];exact hb,.inl ⟨cs,by rw [e];exact hr⟩⟩⟩
theorem EX.fresh {n:Nat}(he:EX (fun k=>S k∨k=n) w w')(hn:w.heap.size≤n):EX (fun k=>S k∨k=ob∨vh.ownBlock=some k) w w':=he.mono fun k hk e=>by
 rcases e with e|e
 ·exact .inl e
 ·omega
end
section
variable {base p c tb ob:Nat}{vh vh':Value}{hs hs':List Nat}{S:Nat→Prop}{J:World→World→Prop}{w w' W wy wz:World}
theorem doneX_own {v cs cs':List Value}(hbw:base≤w.heap.size)(_:∀ k,S k→k<w.heap.size∧k≠ob∧vh.ownBlock≠some k)(hW:OffX 46 base vh w W)(hJ:J W wy)(hyz:OffX 46 base vh wy wz)(hwz:EX (fun k=>S k∨k=ob∨vh.ownBlock=some k) w wz)(hox:OX9 46 base ob p c tb vh' hs' wz)(hnew:∀ k,vh'.ownBlock=some k→vh.ownBlock=some k∨w.heap.size≤k)
 (hy4:Row wy (w.heap.size+1) 34 cs) (hz4:Row wz (w.heap.size+1) 34 cs') (u0 u1 u2 u3 u4:Value):
 DoneX 46 base ob p c tb vh S J hs' v w (.returned (.agg v.toArray)) (((((wz.setCell ⟨w.heap.size+1,0,none⟩ u0).setCell ⟨w.heap.size+1,1,none⟩ u1).setCell ⟨w.heap.size+1,2,none⟩ u2).setCell ⟨w.heap.size+1,3,none⟩ u3).setCell ⟨w.heap.size+1,4,none⟩ u4):=by
 have he:EX (fun k=>k=w.heap.size+1) wz (((((wz.setCell ⟨w.heap.size+1,0,none⟩ u0).setCell ⟨w.heap.size+1,1,none⟩ u1).setCell ⟨w.heap.size+1,2,none⟩ u2).setCell ⟨w.heap.size+1,3,none⟩ u3).setCell ⟨w.heap.size+1,4,none⟩ u4):=
  (((((EX.refl (S:=fun k=>k=w.heap.size+1) wz).set (g:=w.heap.size+1) (.inl rfl) 0 u0).set (g:=w.heap.size+1) (.inl rfl) 1 u1).set (g:=w.heap.size+1) (.inl rfl) 2 u2).set (g:=w.heap.size+1) (.inl rfl) 3 u3).set (g:=w.heap.size+1) (.inl rfl) 4 u4
 obtain ⟨Z,hZ,hZ2⟩:=hyz
 refine ⟨rfl,W,wy,vh',hW,hJ,⟨fun k=>Z k∨k=w.heap.size+1,(hZ.mono fun _ _ e=>.inl e).trans (he.mono fun _ _ e=>.inr e),fun k e=>?_⟩,hox.ex he (fun k e=>?_),hwz.new he (by omega),hnew⟩
 ·rcases e with e|e
  ·exact hZ2 k e
  ·exact ⟨by omega,.inl ⟨cs,by rw [e];exact hy4⟩⟩
 ·subst e
  exact ⟨fun e=>row_tys hox.own hz4 (by decide) e.symm,fun e=>ob_ne hox.hh hz4 (by decide) _ e rfl⟩
theorem doneX_doc {v cs cs':List Value}(hbw:base≤w.heap.size)(_:∀ k,S k→k<w.heap.size∧k≠ob∧vh.ownBlock≠some k)(hW:OffX 76 base vh w W)(hJ:J W wy)(hyz:OffX 76 base vh wy wz)(hwz:EX (fun k=>S k∨k=ob∨vh.ownBlock=some k) w wz)(hox:OX9 76 base ob p c tb vh' hs' wz)(hnew:∀ k,vh'.ownBlock=some k→vh.ownBlock=some k∨w.heap.size≤k)
 (hy4:Row wy (w.heap.size+1) 34 cs) (hz4:Row wz (w.heap.size+1) 34 cs') (u0 u1 u2 u3 u4:Value):
 DoneX 76 base ob p c tb vh S J hs' v w (.returned (.agg v.toArray)) (((((wz.setCell ⟨w.heap.size+1,0,none⟩ u0).setCell ⟨w.heap.size+1,1,none⟩ u1).setCell ⟨w.heap.size+1,2,none⟩ u2).setCell ⟨w.heap.size+1,3,none⟩ u3).setCell ⟨w.heap.size+1,4,none⟩ u4):=by
 have he:EX (fun k=>k=w.heap.size+1) wz (((((wz.setCell ⟨w.heap.size+1,0,none⟩ u0).setCell ⟨w.heap.size+1,1,none⟩ u1).setCell ⟨w.heap.size+1,2,none⟩ u2).setCell ⟨w.heap.size+1,3,none⟩ u3).setCell ⟨w.heap.size+1,4,none⟩ u4):=
  (((((EX.refl (S:=fun k=>k=w.heap.size+1) wz).set (g:=w.heap.size+1) (.inl rfl) 0 u0).set (g:=w.heap.size+1) (.inl rfl) 1 u1).set (g:=w.heap.size+1) (.inl rfl) 2 u2).set (g:=w.heap.size+1) (.inl rfl) 3 u3).set (g:=w.heap.size+1) (.inl rfl) 4 u4
 obtain ⟨Z,hZ,hZ2⟩:=hyz
 refine ⟨rfl,W,wy,vh',hW,hJ,⟨fun k=>Z k∨k=w.heap.size+1,(hZ.mono fun _ _ e=>.inl e).trans (he.mono fun _ _ e=>.inr e),fun k e=>?_⟩,hox.ex he (fun k e=>?_),hwz.new he (by omega),hnew⟩
 ·rcases e with e|e
  ·exact hZ2 k e
  ·exact ⟨by omega,.inl ⟨cs,by rw [e];exact hy4⟩⟩
 ·subst e
  exact ⟨fun e=>row_tys hox.own hz4 (by decide) e.symm,fun e=>ob_ne hox.hh hz4 (by decide) _ e rfl⟩
end
end Go.Proofs.YtdjpjfdeeelijaaGreatDoor
