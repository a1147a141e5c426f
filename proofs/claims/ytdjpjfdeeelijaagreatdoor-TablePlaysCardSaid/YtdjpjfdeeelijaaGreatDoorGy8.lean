/- hostellaw09: meant. -/
import Derived.Test.YtdjpjfdeeelijaaGreatDoorGy3
namespace Go.Proofs.YtdjpjfdeeelijaaGreatDoor
open Go.RowKit Go.Sort Go.Shelf Go.WideMaps Go.Maps Go.WideShapes Go.WideElems Go.MapKept Go.ChangeMaps
attribute [local go_sem] Oper.semAt_some
theorem lay9:(∃ P,Lay nodes9 P)∧Kid nodes9:=by
 have hz:=new9 0 file9 file9_len
 obtain ⟨P',hlay,_⟩:=lay_new [enW 0 file9] [root0] _ 0 lay0 hz
 exact ⟨⟨P',hlay⟩,lay_kid [enW 0 file9] [root0] _ 0 lay0 kid0 hz⟩
def MeantP (k:Nat)(w:World)(e:Ending)(w':World):Prop:=∃ (wm w4:World) (q a b G d tr root oq:Nat) (v4:Value) (dd:Nat→Option Addr × Nat) (vS:Value) (vs:List Value) (Ls:List (List Int)) (s':CC),e=.returned (.pointer (some ⟨oq,0,none⟩))∧w.heap.size≤wm.heap.size∧wm.heap.size≤w4.heap.size∧RB wm w4 G v4 nodes9 dd∧Fine nodes9∧takC ⟨List.replicate k fr0,[],0⟩=((root:Int),0,s')∧RCW w' w4.heap.size q a b G d vS s' vs Ls∧T9 w' w4.heap.size tr d root (.slice none 0 0) (.slice none 0 0) [] [] false∧OX9 76 w4.heap.size oq q d tr (.slice none 0 0) [] w'∧Below w4.heap.size w4 w'∧Below w.heap.size w w'
set_option maxRecDepth 100000 in
set_option maxHeartbeats 8000000 in
theorem meant9_any (k:Nat)(h1:1≤k)(h2:k≤1024)(w:World):Calls Tryz.prog 7 #[.int .i64 (k:Int)] w (MeantP k w):=by
 have HF:=hid (fileX_any w)
 have HK:=hid (show 1≤k∧k≤1024 from ⟨h1,h2⟩)
 clear h1 h2
 go_enter Tryz.func7,Tryz.ntmps7
 go_wp2_with fail
 refine (HF.out).mono ?_
 rintro e wm ⟨E,M,rfl,hE,hb1⟩
 have HB1:=hid hb1
 have HNW:=hid (rnew_any (some ⟨E,0,none⟩) 1 1 [enW M file9] wm hE (by omega))
 have HNE:=hid (new9 M file9 file9_len)
 clear hE hb1
 go_wp2_with fail
 refine (HNW.out).mono ?_
 rintro e w4 ⟨hb2,hp⟩
 rw [if_neg (by show ¬ 64<1;omega),if_pos HNE.out,tree9 M] at hp
 obtain ⟨G,v4,dd,rfl,hrb,hfine⟩:=hp
 have HRB:=hid hrb
 have HFI:=hid hfine
 have HBM:=hid hb2.size
 have HB4:=hid (bthen HB1.out hb2)
 have HPN:=hid (rnewP_any k w4 HK.out.1 HK.out.2)
 clear hrb hfine hb2
 go_wp2_with fail
 refine (HPN.out).mono ?_
 rintro e w5 ⟨q,a,b,rfl,hrp,hq,ha,hb',hb5⟩
 have HB5:=hid hb5
 have HRP:=hid hrp
 have HLO:=hid (show w4.heap.size≤q∧w4.heap.size≤a∧w4.heap.size≤b from ⟨hq,ha,hb'⟩)
 have HCN:=hid (rcnew_any q G w5)
 clear hrp hq ha hb' hb5
 go_wp2_with fail
 refine (HCN.out).mono ?_
 rintro e w6 ⟨rfl,h6⟩
 obtain ⟨d,hd⟩:∃ d,d=w5.heap.size:=⟨_,rfl⟩
 rw [← hd]
 have HB6:=hid (show Below w5.heap.size w5 w6 by rw [h6];exact bal _)
 have HRC:=hid (show RCW w6 w4.heap.size q a b G d (.slice none 0 0) ⟨List.replicate k fr0,[],0⟩ (sZ k) (List.replicate k []) from by
  have hrp6:=HRP.out.below HB6.out
  have hrd:Row w6 d 152 [.pointer (some ⟨q,0,none⟩),.pointer (some ⟨G,0,none⟩),.slice none 0 0]:=by rw [h6,hd];exact Row.new w5 _ _
  have hrs:RS w6 w4.heap.size q a b (cnts (List.replicate k fr0)) (sZ k) (List.replicate k []):=⟨by unfold cnts;rw [List.map_replicate];exact hrp6,by simp [sZ],(fun i h h2=>by simp only [sZ,List.getElem_replicate];exact own_nil_of),(fun i j hi hj _ q' hq'=>by simp only [sZ,List.getElem_replicate] at hq';cases hq'),(fun c hc=>by unfold cnts at hc;rw [List.map_replicate] at hc;rw [List.eq_of_mem_replicate hc];exact Int.le_refl _),(fun L hL=>by rw [List.eq_of_mem_replicate hL];exact Nat.zero_le _),HLO.out.1,HLO.out.2.1,HLO.out.2.2⟩
  have hho:HoldsB (List.replicate k fr0) (List.replicate k ([]:List Int)):=fun k hk h2 hc=>by rw [List.getElem_replicate] at hc;exact absurd rfl hc
  exact ⟨hrd,World.ownsRow_nil _ _ _ _,hrs,hho,by rw [hd];exact HB5.out.size⟩)
 have HG0:=hid (good09 (rdP16 nodes9) k)
 obtain ⟨root,s',ht,TK⟩:∃ (r:Nat) (s':CC),takC ⟨List.replicate k fr0,[],0⟩=((r:Int),0,s')∧Taken ⟨List.replicate k fr0,[],0⟩ s' [] r:=by
  rcases takC_case HG0.out with ⟨q,s',h1,h2⟩|⟨_,h2⟩
  ·exact ⟨q,s',h1,h2⟩
  ·have h3:freeN (List.replicate k fr0)+0=0:=h2
   rw [free_all] at h3
   have:=HK.out
   omega
 have HTC:=hid ht
 have HB46:=hid (bthen HB5.out HB6.out)
 have HTK:=hid (rctake_any (rd:=rdP16 nodes9) (hx:=[]) w4.heap.size q a b G d (.slice none 0 0) ⟨List.replicate k fr0,[],0⟩ (sZ k) (List.replicate k []) w6 HRC.out HG0.out HB46.out.size (by simp) (fun c hc=>by
  unfold cnts at hc
  rw [List.map_replicate] at hc
  rw [List.eq_of_mem_replicate hc]
  decide))
 have HNT:=hid (new9R_any w6 HRC.out root s' ht HB46.out.size HTK.out)
 clear ht TK h6 hd
 go_wp2_with fail
 refine (HNT.out).mono ?_
 rintro e w7 ⟨tr,vS,vs,Ls,rfl,hr,htt,_⟩
 have HR7:=hid hr
 have HT7:=hid htt
 clear hr htt
 go_wp2_with fail
 go_ret
 have hb8:Below w7.heap.size w7 (w7.alloc (.cells #[.pointer (some ⟨q,0,none⟩),.pointer (some ⟨d,0,none⟩),.pointer (some ⟨tr,0,none⟩),.slice none 0 0] 76)):=bal _
 have hb67:Below w4.heap.size w4 w7:=HR7.out.ex.below HB46.out (fun k e=>(HRC.out.tys e).1) HB46.out.size
 have hb48:=hb67.trans (hb8.mono hb67.size)
 exact ⟨wm,w4,q,a,b,G,d,tr,root,w7.heap.size,v4,dd,vS,vs,Ls,s',rfl,HB1.out.size,HBM.out,HRB.out,HFI.out,HTC.out,HR7.out.rc.below hb8,HT7.out.below hb8,⟨Row.new w7 _ _,World.ownsRow_nil _ _ _ _,hb67.size⟩,hb48,HB4.out.trans (hb48.mono HB4.out.size)⟩
end Go.Proofs.YtdjpjfdeeelijaaGreatDoor
