/- hostellaw09: file and made, to the byte. -/
import Derived.Test.YtdjpjfdeeelijaaGreatDoorGy0
namespace Go.Proofs.YtdjpjfdeeelijaaGreatDoor
open Go.RowKit Go.Sort Go.WideMaps Go.Maps Go.WideShapes Go.WideElems Go.MapKept Go.ChangeMaps
attribute [local go_sem] Oper.semAt_some
def file9:BL:=(List.range 8201).map fun k=>UInt8.ofNat (k/4096+1)
theorem file9_len:file9.length=8201:=by unfold file9;rw [List.length_map,List.length_range]
theorem file9_at {m:Nat}(h:m<8201):file9[m]?=some (UInt8.ofNat (m/4096+1)):=by
 unfold file9
 rw [List.getElem?_map,List.getElem?_range h]
 rfl
/-- The nodes of the file system. -/
def nodes9:List ND:=(newE [root0] 0 [enW 0 file9]).2.2
theorem tree_any (M:Nat)(D:BL):(newE [root0] 0 [enW M D]).2.2=(newE [root0] 0 [enW 0 D]).2.2:=by
 rw [newE_twin8 [enW M D] [enW 0 D] [root0] 0 rfl (fun i h h'=>by
  obtain rfl:i=0:=by simp at h;omega
  rfl)]
theorem tree9 (M:Nat):(newE [root0] 0 [enW M file9]).2.2=nodes9:=tree_any M file9
def FileX (w:World)(e:Ending)(w':World):Prop:=∃ E M,e=.returned (.slice (some ⟨E,0,none⟩) 1 1)∧Ents w' (some ⟨E,0,none⟩) 1 [enW M file9]∧Below w.heap.size w w'
set_option maxRecDepth 100000 in
set_option maxHeartbeats 4000000 in
theorem fileX_any (w:World):Calls Tryz.prog 17 #[] w (FileX w):=by
 go_enter Tryz.func17,Tryz.ntmps17
 go_wp2_with (at_make;refine wpList_make_row _ rfl _ _ 89 rfl 5 (.int .u8 0) 1 Tryz.underlying89 infoU8t rfl .i64 .i64 8201 8201 8201 rfl rfl (by omega) (by omega) (by omega) (by omega) ?_;intro w1 hr1 hb1 hs1;have HR1:=hid hr1;have HB1:=hid hb1;clear hr1 hb1 hs1)
 go_loopw [2] (fun i wr=>∃ (k:Nat) (D:BL),k≤8201∧i=.int .i64 k∧D.length=8201∧Row wr w.heap.size 5 (D.map B8)∧Below w.heap.size w wr∧∀ m,m<k→D[m]?=some (UInt8.ofNat (m/4096+1))) (fun i _=>8201-(intOf i).toNat)
 case atStart=>
  refine ⟨0,List.replicate 8201 0,by omega,rfl,List.length_replicate,?_,HB1.out,fun m h=>absurd h (Nat.not_lt_zero m)⟩
  have:(List.replicate 8201 (0:UInt8)).map B8=List.replicate 8201 (.int .u8 0):=by rw [List.map_replicate];rfl
  rw [this]
  exact HR1.out
 case round=>
  obtain ⟨k,D,hk,rfl,hD,hr,hb,hat⟩:=hrel
  have HAT:=hid hat
  have HD:=hid hD
  have HR:=hid hr
  have HB:=hid hb
  clear hD hr hb hat
  by_cases hlt:k<8201
  ·have d1:decide ((k:Int)<8201)=true:=by simp;omega
   have d1n:decide (k<8201)=true:=by simp;omega
   have hf:=HR.out.frozen k
   have hc:=HR.out.cell k (by rw [List.length_map,HD.out];exact hlt)
   have hl:=HR.out.lt
   obtain ⟨y,hy⟩:∃ y:Nat,y=k/4096+1:=⟨_,rfl⟩
   have hy4:y<4:=by omega
   have e1:wrap64 ((k:Int)/4096)=((k/4096:Nat):Int):=by rw [IntWalk.wrap64_in _ ⟨by omega,by omega⟩];omega
   have e1b:(k:Int).tdiv 4096=((k/4096:Nat):Int):=by rw [Int.tdiv_eq_ediv_of_nonneg (by omega)];omega
   obtain ⟨z,hz⟩:∃ z:Nat,z=k/4096:=⟨_,rfl⟩
   rw [← hz] at e1 e1b hy
   have e2:wrap64 ((z:Int)+1)=(y:Int):=by rw [IntWalk.wrap64_in _ ⟨by omega,by omega⟩];omega
   have e3:IntKind.u8.wrap (y:Int)=(y:Int):=by rw [IntKind.wrap_u8];omega
   have ez:(0:Int)≤(k:Int):=by omega
   have HY:=hid (show (.int .u8 (y:Int):Value)=B8 (UInt8.ofNat y) by unfold B8;congr 1;simp;omega)
   have HE5:=hid (show wrap64 (wrap64 (z:Int)+1)%256=(y:Int) by rw [IntWalk.wrap64_in (z:Int) ⟨by omega,by omega⟩,IntWalk.wrap64_in _ ⟨by omega,by omega⟩];omega)
   have HYK:=hid (show UInt8.ofNat y=UInt8.ofNat (k/4096+1) by rw [hy,hz])
   clear hy hz hy4
   go_wp2_with fail
   go_roundw
   case rel=>
    refine ⟨k+1,D.set k (UInt8.ofNat y),by omega,by go_num,by rw [List.length_set];exact HD.out,?_,bset HB.out (Nat.le_refl _) _,fun m hm=>?_⟩
    rotate_left
    ·by_cases e:m=k
     ·subst e
      rw [List.getElem?_set_self (by rw [HD.out];exact hlt),HYK.out]
     ·rw [List.getElem?_set_ne (Ne.symm e)]
      exact HAT.out m (by omega)
    rw [List.map_set,HE5.out,HY.out]
    exact HR.out.set k _
   case measure=>simp [intOf];omega
  ·have d1:decide ((k:Int)<8201)=false:=by simp;omega
   have d1n:decide (k<8201)=false:=by simp;omega
   have HDE:=hid (show D=file9 from by
    obtain rfl:k=8201:=by omega
    refine List.ext_getElem? fun m=>?_
    by_cases h:m<8201
    ·rw [HAT.out m h,file9_at h]
    ·rw [List.getElem?_eq_none (by rw [HD.out];omega),List.getElem?_eq_none (by rw [file9_len];omega)])
   obtain ⟨E,hE⟩:∃ E,E=wr.heap.size:=⟨_,rfl⟩
   have HEN:=hid (show Ents (wr.alloc (.cells #[.string (ba [47,97]),.int .u8 1,.int .u16 420,.int .u32 0,.int .u32 0,.slice (some ⟨w.heap.size,0,none⟩) 8201 8201,.string (ba [])] 131)) (some ⟨wr.heap.size,0,none⟩) 1 [enW w.heap.size D] from by
    have h1:=Row.new wr 131 (enW w.heap.size D).cs
    have h2:(enW w.heap.size D).cs=[.string (ba [47,97]),.int .u8 1,.int .u16 420,.int .u32 0,.int .u32 0,.slice (some ⟨w.heap.size,0,none⟩) 8201 8201,.string (ba [])]:=by unfold EN.cs enW;rw [HD.out]
    refine ents_of (xs:=[enW w.heap.size D]) ?_ fun x hx=>?_
    ·rw [h2] at h1
     simpa [h2] using h1
    ·rw [List.mem_singleton.1 hx]
     refine ⟨?_,fun h=>(by cases h),by show (2:Nat)≤_;decide,by show (0:Nat)≤_;decide,by show D.length≤_;rw [HD.out];decide,⟨by show (0:Int)≤420;decide,by show (420:Int)≤65535;decide⟩⟩
     have h3:=HR.out.alloc (.cells #[.string (ba [47,97]),.int .u8 1,.int .u16 420,.int .u32 0,.int .u32 0,.slice (some ⟨w.heap.size,0,none⟩) 8201 8201,.string (ba [])] 131)
     exact Row.byt (l:=D) (rest:=[]) (by rw [List.append_nil];exact h3) rfl)
   go_wp2_with fail
   go_ret
   exact ⟨_,w.heap.size,rfl,by have:=HEN.out;rw [HDE.out] at this;exact this,HB.out.alloc HB.out.size _⟩
def MadeX (n:Int)(w:World)(e:Ending)(w':World):Prop:=(n<1∧e=.returned (.tuple #[.pointer none,.bool true])∧Below w.heap.size w w')∨
 (∃ w0 F t p g h c m tb ob root ws,∃ k:Nat,∃ st:S9,n=(k:Int)∧1≤k∧e=.returned (.tuple #[.pointer (some ⟨ob,0,none⟩),.bool true])∧OW9 w0 F t p g h c m tb ob root (.slice none 0 0) st ws w'∧Fresh9 (rdP16 t.L) root k st∧Below w.heap.size w w0∧t.L=nodes9∧takC ⟨List.replicate k fr0,[],0⟩=((root:Int),0,st.s))
set_option maxRecDepth 100000 in
set_option maxHeartbeats 8000000 in
theorem madeX_any (n:Int)(hn:n≤1024)(w:World)(hT:Tb w)(hZ:Wd.Sizes w):Calls Tryz.prog 6 #[.int .i64 n] w (MadeX n w):=by
 have HF:=hid (fileX_any w)
 have HT:=hid hT
 have HZ:=hid hZ
 have HN:=hid hn
 clear hT hZ hn
 go_enter Tryz.func6,Tryz.ntmps6
 go_wp2_with fail
 refine (HF.out).mono ?_
 rintro e w1 ⟨E,M,rfl,hE,hb1⟩
 have HB1:=hid hb1
 have HNW:=hid (new_any (some ⟨E,0,none⟩) 1 1 [enW M file9] w1 hE (by omega))
 have HNE:=hid (new9 M file9 file9_len)
 clear hE hb1
 go_wp2_with fail
 refine (HNW.out).mono ?_
 rintro e w2 ⟨hb2,hp⟩
 rw [if_neg (by show ¬ 64<1;omega),if_pos HNE.out] at hp
 obtain ⟨FF,t,rfl,htl,hfs,_,_⟩:=hp
 have HTL:=hid htl
 clear htl
 have HB2:=hid (HB1.out.trans (hb2.mono HB1.out.size))
 have HFS:=hid hfs
 clear hb2 hfs
 by_cases h1:n<1
 ·have HPN:=hid (poolBad9_any n w2 (.inl h1))
  have HN1:=hid h1
  clear h1
  go_wp2_with fail
  refine (HPN.out).mono ?_
  rintro e w3 ⟨rfl,rfl⟩
  go_wp2_with fail
  go_ret2
  exact .inl ⟨HN1.out,rfl,HB2.out⟩
 ·obtain ⟨k,rfl⟩:=Int.eq_ofNat_of_zero_le (show 0≤n by omega)
  have HK:=hid (show 1≤k∧k≤1024 by have:=HN.out;omega)
  have HPN:=hid (poolNew_any k w2 HK.out.1 HK.out.2)
  clear h1
  go_wp2_with fail
  refine (HPN.out).mono ?_
  rintro e w3 ⟨p,g,h,ws,rfl,hpl,hp1,hg1,hh1,hb3⟩
  have HT2:=hid (show Tb w2 from fun j hj=>St.cell (HT.out j hj) HB2.out)
  have HCN:=hid (cnew9_any FF t p g h (List.replicate k fr0) ws w2 w3 HFS.out hb3 hpl hg1 hh1 HT2.out)
  have HB3:=hid hb3
  clear hpl hp1 hg1 hh1 hb3
  go_wp2_with fail
  refine (HCN.out).mono ?_
  rintro e w4 ⟨c,m,rfl,hcw,hb4,_,_⟩
  have HCW:=hid hcw
  have HB4:=hid (HB3.out.trans (hb4.mono HB3.out.size))
  have HG0:=hid (good09 (rdP16 t.L) k)
  obtain ⟨q,s',ht,TK⟩:∃ (q:Nat) (s':CC),takC ⟨List.replicate k fr0,[],0⟩=((q:Int),0,s')∧Taken ⟨List.replicate k fr0,[],0⟩ s' [] q:=by
   rcases takC_case HG0.out with ⟨q,s',h1,h2⟩|⟨_,h2⟩
   ·exact ⟨q,s',h1,h2⟩
   ·have h3:freeN (List.replicate k fr0)+0=0:=h2
    rw [free_all] at h3
    have:=HK.out
    omega
  have HTW:=hid (tnew_any (rd:=rdP16 t.L) w2 FF t p g h c m _ s' ws [] q w4 HCW.out (HZ.out.below HB2.out) HG0.out (by simp) ht)
  have HSL:=hid (show s'.sl=[] from List.sublist_nil.1 TK.sub)
  have HFR:=hid (show Fresh9 (rdP16 t.L) q k ⟨s',noK,[],false⟩ from ⟨⟨fun _=>TI.new HG0.out TK,fun e=>by cases e⟩,rfl,rfl,by show s'.fs.length=k;rw [TK.fs,List.length_set,List.length_replicate],TK.tn,HSL.out,by
   have h1:=takC_sum HG0.out ht
   have h2:freeN s'.fs+s'.sl.length+1=freeN (List.replicate k fr0)+0:=h1
   rw [HSL.out,free_all] at h2
   exact h2,rfl⟩)
  have HTC:=hid ht
  clear hcw hb4 ht TK
  go_wp2_with fail
  refine (HTW.out).mono ?_
  rintro e w5 ⟨tb,ws5,rfl,htw,he5,htb⟩
  have HT5:=hid htw
  have HE5:=hid he5
  clear htw he5 htb
  go_wp2_with fail
  go_ret2
  have hlow:Below w2.heap.size w2 (w5.alloc (.cells #[.pointer (some ⟨p,0,none⟩),.pointer (some ⟨c,0,none⟩),.pointer (some ⟨tb,0,none⟩),.slice none 0 0] 46)):=HT5.out.cw.low.alloc HT5.out.cw.low.size _
  exact .inr ⟨w2,FF,t,p,g,h,c,m,tb,w5.heap.size,q,ws5,k,⟨s',noK,[],false⟩,rfl,HK.out.1,rfl,⟨Row.new w5 _ _,HT5.out.below (bal _),World.ownsRow_nil _ _ _ _,HT5.out.cw.low.size⟩,HFR.out,HB2.out,HTL.out.trans (tree9 M),HTC.out⟩
end Go.Proofs.YtdjpjfdeeelijaaGreatDoor
