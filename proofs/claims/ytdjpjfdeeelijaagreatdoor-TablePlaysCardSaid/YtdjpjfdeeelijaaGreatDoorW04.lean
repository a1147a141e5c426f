/- Rows of elements of k cells each, that lie in memory. No program is named. vfs: New. Merged: O O5 O6 O7 LF OA. Opening arguments of types api.Creds and api.Meta. Merged: FD FW FN. Merged: FR0 FR1 FR2 FR3 FR4. Read, at every number. -/
import Derived.Test.YtdjpjfdeeelijaaGreatDoorKA
import Derived.Maps.AppendAt
import Derived.Test.YtdjpjfdeeelijaaGreatDoorKH
import Derived.Lib.SmallJoins
import Derived.Deep.Slices
import Derived.SizedLaws
import Derived.Test.YtdjpjfdeeelijaaGreatDoorW02
import Derived.Test.YtdjpjfdeeelijaaGreatDoorW03
import Derived.Laws.AppendOwnNone
import Derived.BigQuiet
import Derived.IntWalk
import Derived.Deep.RegionHeld3
namespace Go.Proofs.YtdjpjfdeeelijaaGreatDoor
open Go.ChangeShapes Go.WideShapes Go.ChangeAt Go.RowKit Go.Sort
structure Rk (w:World)(k:Nat)(a:Option Addr)(len:Nat)(rows:List (List Value)):Prop where
 hlen:rows.length=len
 row:∀ i (h:i<rows.length),rows[i].length=k∧∃ b off,a=some ⟨b,off,none⟩∧∀ j (hj:j<rows[i].length),w.cell? ⟨b,off+i*k+j,none⟩=some rows[i][j]
theorem Rk.nil (w:World)(k:Nat)(a:Option Addr):Rk w k a 0 []:=⟨rfl,fun i h=>by simp at h⟩
theorem Rk.below' {w w':World}{k:Nat}{a:Option Addr}{len:Nat}{rows:List (List Value)}(h:Rk w k a len rows)(hb:Below w.heap.size w w'):Rk w' k a len rows:=
 ⟨h.hlen,fun i hi=>by
  obtain ⟨h1,b,off,e,hc⟩:=h.row i hi
  exact ⟨h1,b,off,e,fun j hj=>keepC hb (hc j hj)⟩⟩
theorem Rk.some_of {w:World}{k:Nat}{a:Option Addr}{len:Nat}{rows:List (List Value)}(h:Rk w k a len rows)(hl:0<rows.length):
 ∃ b off,a=some ⟨b,off,none⟩∧∀ i (hi:i<rows.length) j (hj:j<rows[i].length),w.cell? ⟨b,off+i*k+j,none⟩=some rows[i][j]:=by
 obtain ⟨_,b,off,rfl,_⟩:=h.row 0 hl
 refine ⟨b,off,rfl,fun i hi j hj=>?_⟩
 obtain ⟨_,b',off',e,hc⟩:=h.row i hi
 cases e
 exact hc j hj
theorem Rk.klen {w:World}{k:Nat}{a:Option Addr}{len:Nat}{rows:List (List Value)}(h:Rk w k a len rows){i:Nat}(hi:i<rows.length):rows[i].length=k:=(h.row i hi).1
theorem Rk.prefix {w:World}{k:Nat}{a:Option Addr}{len n:Nat}{rows:List (List Value)}(h:Rk w k a len rows)(hn:n≤len):Rk w k a n (rows.take n):=
 ⟨by have:=h.hlen;simp;omega,fun i hi=>by
  have hi':i<rows.length:=by simp at hi;omega
  have e9:(rows.take n)[i]=rows[i]:=by simp
  rw [e9]
  exact h.row i hi'⟩
theorem flat_at {k:Nat}:∀ {rows:List (List Value)} (_:∀ r∈rows,r.length=k) {i:Nat} (hi:i<rows.length) {j:Nat} (hj:j<rows[i].length),rows.flatten[i*k+j]?=some rows[i][j]
 | [],_,i,hi,_,_=>by simp at hi
 | r::rows,hk,0,_,j,hj=>by
  simp only [List.getElem_cons_zero] at hj ⊢
  rw [List.flatten_cons,Nat.zero_mul,Nat.zero_add,List.getElem?_append_left hj,List.getElem?_eq_getElem hj]
 | r::rows,hk,i+1,hi,j,hj=>by
  have hr:=hk r (List.mem_cons_self ..)
  have hi':i<rows.length:=by simpa using hi
  have ih:=flat_at (fun x hx=>hk x (List.mem_cons_of_mem _ hx)) hi' (j:=j) (by simpa using hj)
  rw [List.flatten_cons,List.getElem?_append_right (by rw [hr,Nat.succ_mul];omega),hr]
  have e:(i+1)*k+j-k=i*k+j:=by rw [Nat.succ_mul];omega
  rw [e]
  simpa using ih
theorem flat_len {k:Nat}:∀ {rows:List (List Value)} (_:∀ r∈rows,r.length=k),rows.flatten.length=rows.length*k
 | [],_=>by simp
 | r::rows,hk=>by
  rw [List.flatten_cons,List.length_append,flat_len (fun x hx=>hk x (List.mem_cons_of_mem _ hx)),hk r (List.mem_cons_self ..),List.length_cons,Nat.succ_mul,Nat.add_comm]
/-- What is owned reads as rows. -/
theorem own_rk {w:World}{base n k:Nat}{E:TypeId}{v:Value}{rows:List (List Value)}(h:w.ownsRow base E k v n rows.flatten)(hk:∀ r∈rows,r.length=k)(hpos:0<k):
 ∃ a cap,v=.slice a n cap∧Rk w k a n rows∧(a=none→cap=0)∧n≤cap∧cap≤maxLen∧∀ b,a=some b→∃ G,b=⟨G,0,none⟩∧base≤G∧G<w.heap.size:=by
 have hl:rows.length=n:=by
  have:=h.1
  rw [flat_len hk] at this
  exact Nat.eq_of_mul_eq_mul_right hpos this
 rcases h.2 with ⟨rfl,h0⟩|⟨g,cap,cur,rfl,hb,hg,hnc,hcm,hcs,htake⟩
 ·subst h0
  obtain rfl:=List.length_eq_zero_iff.1 hl
  exact ⟨none,0,rfl,Rk.nil _ _ _,fun _=>rfl,Nat.le_refl _,by simp [maxLen],fun b h=>by cases h⟩
 ·refine ⟨some ⟨g,0,none⟩,cap,rfl,⟨hl,fun i hi=>⟨hk _ (List.getElem_mem hi),g,0,rfl,fun j hj=>?_⟩⟩,(fun h=>by cases h),hnc,hcm,fun b hb'=>?_⟩
  ·have hjk:j<k:=by have:=hk _ (List.getElem_mem hi);omega
   have hlt:i*k+j<n*k:=by
    have h1:i+1≤n:=by omega
    have h2:=Nat.mul_le_mul_right k h1
    rw [Nat.succ_mul] at h2
    omega
   have hc:=h.cellAt (i*k+j) hlt
   rw [Nat.zero_add,hc,flat_at hk hi hj]
  ·cases hb'
   exact ⟨g,rfl,hb,(Array.getElem?_eq_some_iff.1 hg).1⟩
theorem rk_one {rows:List (List Value)}(h:∀ r∈rows,∀ u∈r,u.oneCell'=true):∀ u∈rows.flatten,u.oneCell'=true:=by
 intro u hu
 obtain ⟨r,hr,hu2⟩:=List.mem_flatten.1 hu
 exact h r hr u hu2
/-- Rows at an address: what an append takes in. -/
theorem Rk.news {w:World}{k:Nat}{ad:Addr}{len:Nat}{rows:List (List Value)}(h:Rk w k (some ad) len rows)(hpos:0<k):∀ j u,rows.flatten[j]?=some u→w.cell? (ad.add j)=some u:=by
 intro j u hj
 have hk:∀ r∈rows,r.length=k:=fun r hr=>by
  obtain ⟨i,hi,rfl⟩:=List.getElem_of_mem hr
  exact h.klen hi
 have hjl:=(List.getElem?_eq_some_iff.1 hj).1
 rw [flat_len hk] at hjl
 have hi:j/k<rows.length:=(Nat.div_lt_iff_lt_mul hpos).2 hjl
 have hjm:j%k<rows[j/k].length:=by rw [h.klen hi];exact Nat.mod_lt _ hpos
 have e:j/k*k+j%k=j:=by have:=Nat.div_add_mod j k;rw [Nat.mul_comm] at this;exact this
 have h1:=flat_at hk hi hjm
 rw [e,hj] at h1
 obtain ⟨_,b,off,e2,hc⟩:=h.row _ hi
 cases e2
 have h2:=hc _ hjm
 rw [show off+j/k*k+j%k=off+j by omega] at h2
 rw [← Option.some.inj h1] at h2
 unfold Addr.add
 by_cases e0:j=0
 ·subst e0;simpa using h2
 ·simpa [e0] using h2
end Go.Proofs.YtdjpjfdeeelijaaGreatDoor
namespace Go.Proofs.YtdjpjfdeeelijaaGreatDoor
open Go.RowKit Go.Sort
def root0:ND:=⟨[47],0,2,493,0,0,0,[],[],[]⟩
def newE (L:List ND)(i:Nat):List EN→Int × Nat × List ND
 | []=>(0,0,L)
 | x::xs=>if (addE L x).1=0 then newE (addE L x).2 (i+1) xs else ((addE L x).1,i,L)
theorem newE_go {L:List ND}{i:Nat}{x:EN}{xs:List EN}(h:(addE L x).1=0):newE L i (x::xs)=newE (addE L x).2 (i+1) xs:=by rw [newE,if_pos h]
theorem newE_no {L:List ND}{i:Nat}{x:EN}{xs:List EN}(h:¬ (addE L x).1=0):newE L i (x::xs)=((addE L x).1,i,L):=by rw [newE,if_neg h]
theorem addE_len {L:List ND}{x:EN}(h:(addE L x).1=0):(addE L x).2.length=L.length+1:=by
 unfold addE at h ⊢
 split
 ·rename_i e;rw [e] at h;cases h
 ·rename_i ds e
  rw [e] at h
  simp only at h ⊢
  split
  ·rename_i h2;rw [if_pos h2] at h;cases h
  ·rename_i h2
   rw [if_neg h2] at h
   split
   ·rename_i h3;rw [h3] at h;cases h
   ·rename_i h3
    rw [h3] at h
    simp only at h
    split
    ·rename_i h4;rw [h4] at h;cases h
    ·rename_i j h4
     rw [h4] at h
     simp only at h
     split
     ·exact addN_len _ _ _ _
     ·rename_i h5;rw [if_neg h5] at h;cases h
/-- The entries of a slice. -/
structure Ents (w:World)(a:Option Addr)(n:Nat)(xs:List EN):Prop where
 rows:Rk w 7 a n (xs.map EN.cs)
 ok:∀ x∈xs,EnOk w x
theorem Ents.below {w w':World}{a:Option Addr}{n:Nat}{xs:List EN}(h:Ents w a n xs)(hb:Below w.heap.size w w'):Ents w' a n xs:=⟨h.rows.below' hb,fun x hx=>(h.ok x hx).below hb⟩
def NewsPost (w:World)(xs:List EN)(e:Ending)(w':World):Prop:=Below w.heap.size w w'∧
 if 64<xs.length then e=.returned (.tuple #[.pointer none,.int .i64 15,.int .i64 (-1)])
 else if (newE [root0] 0 xs).1=0 then ∃ F t,e=.returned (.tuple #[.pointer (some ⟨F,0,none⟩),.int .i64 0,.int .i64 0])∧t.L=(newE [root0] 0 xs).2.2∧FSat w' F t∧w.heap.size≤F∧Far w.heap.size w' t
 else e=.returned (.tuple #[.pointer none,.int .i64 (newE [root0] 0 xs).1,.int .i64 ((newE [root0] 0 xs).2.1:Nat)])
theorem fine0:Fine [root0]:=by
 have h0:∀ i,i<[root0].length→i=0:=fun i hi=>by simpa using hi
 refine ⟨by simp,by simp,rfl,?_,?_,?_,?_,?_,?_,?_⟩ <;> intro i hi <;> obtain rfl:=h0 i hi
 ·exact ⟨by decide,rfl⟩
 ·intro p hp;cases hp
 ·decide
 ·exact ⟨by decide,rfl⟩
 ·exact ⟨by decide,by decide⟩
 ·decide
 ·decide
theorem bld0 {B:Nat}{w:World}{F K R M S:Nat}(hR:Row w R 129 [.int .i64 0,.string (ba [47]),.pointer (some ⟨R,0,none⟩),.int .u8 2,.int .u16 493,.int .u32 0,.int .u32 0,.int .i64 0,.map (some M)])(hM:NMap w M [])(hK:NMap w K [([47],(116,R))])(hF:Row w F 120 [.pointer (some ⟨R,0,none⟩),.slice (some ⟨S,0,none⟩) 1 1])
 (hS:Row w S 191 [ndV (116,R)]) (hMK:M≠K) (lF:B≤F) (lK:B≤K) (lM:B≤M) (lS:B≤S):Bld w F K ⟨[root0],[R],[M]⟩∧Low B w F K ⟨[root0],[R],[M]⟩:=by
 have h0:∀ i,i<[root0].length→i=0:=fun i hi=>by simpa using hi
 have ho:w.ownsRow 0 191 1 (.slice (some ⟨S,0,none⟩) 1 1) 1 [ndV (116,R)]:=hS.owns (base:=0) (n:=1) (cap:=1) (Nat.zero_le _) rfl (Nat.le_refl _) (by unfold maxLen;omega)
 refine ⟨⟨⟨fine0,⟨_,hF,ho⟩,?_⟩,hK,rfl,rfl,?_,?_⟩,⟨lF,lK,?_,?_,?_⟩⟩
 ·intro i hi
  obtain rfl:=h0 i hi
  exact ⟨fun _=>⟨hR,hM⟩,fun h=>(by cases h),fun h=>absurd rfl h⟩
 ·intro i hi _
  obtain rfl:=h0 i hi
  exact hMK
 ·intro i j hi hj _ _ hne
  exact absurd ((h0 i hi).trans (h0 j hj).symm) hne
 ·intro i hi _
  obtain rfl:=h0 i hi
  exact lM
 ·intro v c0 hr g hg
  have e1:=hr.cell 1 (by simp)
  have e2:=hF.cell 1 (by simp)
  rw [e2] at e1
  simp only [List.getElem_cons_zero,List.getElem_cons_succ,Option.some.injEq] at e1
  subst e1
  cases hg
  exact lS
 ·intro i hi k
  obtain rfl:=h0 i hi
  exact absurd rfl k
set_option maxRecDepth 100000 in
set_option maxHeartbeats 8000000 in
theorem new_any (a:Option Addr)(n c:Nat)(xs:List EN)(w:World)(hX:Ents w a n xs)(hn:n≤1000000):
 Calls Tryz.prog 16 #[.slice a n c] w (NewsPost w xs):=by
 have hxl:xs.length=n:=by have:=hX.rows.hlen;simpa using this
 have HX:=hid hX
 have HXL:=hid hxl
 clear hX
 by_cases hbig:64<n
 ·have d1:decide ((64:Int)<(n:Int))=true:=by simp;omega
  have HG:=hid (show 64<xs.length by omega)
  clear hbig hxl
  go_enter Tryz.func16,Tryz.ntmps16
  go_wp2_with fail
  refine bodyPost_ret (v:=.tuple #[.pointer none,.int .i64 15,.int .i64 (-1)]) (by simp [results,Tryz.f16,go_sem]) rfl ⟨Below.refl _ _,?_⟩
  rw [if_pos HG.out]
 ·have d1:decide ((64:Int)<(n:Int))=false:=by simp;omega
  have HG:=hid (show ¬ 64<xs.length by omega)
  have hn64:n≤64:=by omega
  have hmm:=@run_makeMap Tryz.prog
  clear hbig hxl
  go_enter Tryz.func16,Tryz.ntmps16
  go_wp2_with fail
  refine (newRoot_any w).mono ?_
  rintro e' w1 ⟨rfl,hR,hM,hb,hs⟩
  have HB1:=hid hb
  have HS1:=hid hs
  obtain ⟨⟨r0,r1,_⟩,_⟩:=hR.nine
  have hRl:=hR.lt
  -- the new blocks
  have b1:Below w1.heap.size w1 (w1.alloc (.cells [ndV (116,w.heap.size+2)].toArray 191)):=bal _
  have b2:=b1.alloc b1.size (.cells [.pointer (some ⟨w.heap.size+2,0,none⟩),.slice (some ⟨w1.heap.size,0,none⟩) 1 1].toArray 120)
  have b3:=b2.alloc b2.size (.map #[] 0)
  have hSr:=((Row.new w1 191 [ndV (116,w.heap.size+2)]).alloc (.cells [.pointer (some ⟨w.heap.size+2,0,none⟩),.slice (some ⟨w1.heap.size,0,none⟩) 1 1].toArray 120)).alloc (.map #[] 0)
  have hFr:=(Row.new (w1.alloc (.cells [ndV (116,w.heap.size+2)].toArray 191)) 120 [.pointer (some ⟨w.heap.size+2,0,none⟩),.slice (some ⟨w1.heap.size,0,none⟩) 1 1]).alloc (.map #[] 0)
  have hKm:=NMap.made ((w1.alloc (.cells [ndV (116,w.heap.size+2)].toArray 191)).alloc (.cells [.pointer (some ⟨w.heap.size+2,0,none⟩),.slice (some ⟨w1.heap.size,0,none⟩) 1 1].toArray 120))
  have hRr:=(hR.below b3 hR.lt)
  have hMm:=hM.below b3
  simp only [World.size_alloc] at hFr hKm
  obtain ⟨w2,hrun,hK2,hg2⟩:=hKm.put [47] (by decide) (by decide) (116,w.heap.size+2)
  have hS2:=hSr.grown hg2 (hKm.ne_row hSr)
  have hF2:=hFr.grown hg2 (hKm.ne_row hFr)
  have hR2:=hRr.grown hg2 (hKm.ne_row hRr)
  have hM2:NMap w2 (w.heap.size+1) []:=hMm.same (hg2.block _ hMm.lt (by simp only [ne_eq,Option.some.injEq];omega))
  obtain ⟨HBL,HLO⟩:=bld0 (B:=w.heap.size) hR2 hM2 hK2 hF2 hS2 (by omega) (by omega) (by omega) (by omega) (by omega)
  have hbw:Below w.heap.size w w2:=(bthen HB1.out b3).grown hg2 (by have:=b3.size;have:=HB1.out.size;omega) (fun k e=>by cases e;omega)
  have HBW:=hid hbw
  have HBL0:=hid HBL
  have HLO0:=hid HLO
  have hrun':(Instr.mapUpdate 127 (.map (some (w1.heap.size+1+1))) (.string (ByteArray.mk #[47])) (.iface 116 (.pointer (some ⟨w.heap.size+2,0,none⟩)))).run Tryz.prog (((w1.alloc (.cells #[.iface 116 (.pointer (some ⟨w.heap.size+2,0,none⟩))] 191)).alloc (.cells #[.pointer (some ⟨w.heap.size+2,0,none⟩),.slice (some ⟨w1.heap.size,0,none⟩) 1 1] 120)).alloc (.map #[] 0))=.ok () w2:=hrun
  have r1':(((w1.alloc (.cells #[.iface 116 (.pointer (some ⟨w.heap.size+2,0,none⟩))] 191)).alloc (.cells #[.pointer (some ⟨w.heap.size+2,0,none⟩),.slice (some ⟨w1.heap.size,0,none⟩) 1 1] 120)).alloc (.map #[] 0)).cell? ⟨w.heap.size+2,1,none⟩=some (.string (ByteArray.mk #[47])):=keepC b3 r1
  clear hR hM hb hs b1 b2 b3 hSr hFr hKm hRr hMm hrun hK2 hg2 hS2 hF2 hR2 hM2 HBL HLO hbw r0 r1
  go_wp2_with fail
  generalize hF:w1.heap.size+1=F at HBL0 HLO0 ⊢
  clear hF hrun' r1'
  go_loopw [32] (fun i wr=>∃ (k:Nat) (t:FT),k≤n∧i=.int .i64 k∧newE t.L k (xs.drop k)=newE [root0] 0 xs∧t.L.length=k+1∧Bld wr F (F+1) t∧Low w.heap.size wr F (F+1) t∧Below w.heap.size w wr) (fun i _=>n-(intOf i).toNat)
  case atStart=>exact ⟨0,_,Nat.zero_le _,rfl,rfl,rfl,HBL0.out,HLO0.out,HBW.out⟩
  case round=>
   obtain ⟨k,t,hk,rfl,hne,htl,hB,hL,hbw⟩:=hrel
   have HNE:=hid hne
   have HTL:=hid htl
   have HB:=hid hB
   have HL:=hid hL
   have HW:=hid hbw
   clear hne htl hB hL hbw
   by_cases hlt:k<n
   ·have d2:decide ((k:Int)<(n:Int))=true:=by simp;omega
    have d2n:decide (k<n)=true:=by simp;omega
    have hkx:k<xs.length:=by rw [HXL.out];exact hlt
    obtain ⟨b,o,rfl,hcell⟩:=(HX.out.below HW.out).rows.some_of (by simp;omega)
    have g:=fun j hj=>hcell k (by simpa using hkx) j hj
    have e9:(xs.map EN.cs)[k]'(by simpa using hkx)=xs[k].cs:=by simp
    rw [e9] at g
    have g0:=g 0 (by simp [EN.cs])
    have g1:=g 1 (by simp [EN.cs])
    have g2:=g 2 (by simp [EN.cs])
    have g3:=g 3 (by simp [EN.cs])
    have g4:=g 4 (by simp [EN.cs])
    have g5:=g 5 (by simp [EN.cs])
    have g6:=g 6 (by simp [EN.cs])
    simp only [EN.cs,List.getElem_cons_zero,List.getElem_cons_succ,Nat.add_zero] at g0 g1 g2 g3 g4 g5 g6
    have hblt:=World.block_lt_of_cell? _ _ g0
    dsimp only at hblt
    have HOK:=hid ((HX.out.ok _ (List.getElem_mem hkx)).below HW.out)
    have HDR:=hid (List.drop_eq_getElem_cons hkx)
    generalize xs[k]=x at *
    have HBA:=hid (@bal wr (.cells x.cs.toArray 131))
    have HADD:=hid (add_any w.heap.size F (F+1) t x _ (HB.out.below HBA.out) (HL.out.below HB.out.F HBA.out) (HOK.out.below HBA.out) (by rw [HTL.out];omega))
    unfold EN.cs at HADD
    clear hcell g e9
    go_wp2_with fail
    refine (HADD.out).mono ?_
    rintro e' w3 ⟨t',rfl,hl',hB',hL',hb'⟩
    have HW3:=hid (show Below w.heap.size w w3 from (HW.out.trans (HBA.out.mono HW.out.size)).trans hb')
    by_cases he:(addE t.L x).1=0
    ·have HNE2:=hid (show newE t'.L (k+1) (xs.drop (k+1))=newE [root0] 0 xs by rw [hl',← newE_go he,← HDR.out];exact HNE.out)
     have HTL2:=hid (show t'.L.length=k+1+1 by rw [hl',addE_len he,HTL.out])
     have HB2:=hid hB'
     have HL2:=hid hL'
     rw [he]
     clear he hl' hB' hL' hb'
     go_wp2_with fail
     go_roundw
     case rel=>exact ⟨k+1,t',by omega,by go_num,HNE2.out,HTL2.out,HB2.out,HL2.out,HW3.out⟩
     case measure=>simp [intOf];omega
    ·have HNO:=hid (show newE [root0] 0 xs=((addE t.L x).1,k,t.L) by rw [← HNE.out,HDR.out,newE_no he])
     have he':((addE t.L x).1==0)=false:=by simpa using he
     have HE:=hid he
     clear he hl' hB' hL' hb'
     generalize (addE t.L x).1=er at *
     go_wp2_with fail
     refine bodyPost_ret (v:=.tuple #[.pointer none,.int .i64 er,.int .i64 (k:Int)]) (by simp [results,Tryz.f16,go_sem]) rfl ⟨HW3.out,?_⟩
     rw [if_neg HG.out,HNO.out,if_neg HE.out]
   ·have d2:decide ((k:Int)<(n:Int))=false:=by simp;omega
    have d2n:decide (k<n)=false:=by simp;omega
    have HFIN:=hid (show newE [root0] 0 xs=(0,0,t.L) by rw [← HNE.out,List.drop_eq_nil_of_le (by rw [HXL.out];omega),newE])
    clear hlt hk
    go_wp2_with fail
    refine bodyPost_ret (v:=.tuple #[.pointer (some ⟨F,0,none⟩),.int .i64 0,.int .i64 0]) (by simp [results,Tryz.f16,go_sem]) rfl ⟨HW.out,?_⟩
    rw [if_neg HG.out,HFIN.out,if_pos rfl]
    exact ⟨F,t,rfl,rfl,HB.out.fs,HL.out.loF,HL.out.lod⟩
open Go.ChangeShapes Go.WideShapes Go.ChangeAt Go.Joins
theorem spot_none {w:World}{a:Addr}{v:Value}(h:w.cell? a=some v):a.spot=none:=by
 unfold World.cell? at h
 split at h
 ·cases hs:a.spot with
  | none=>rfl
  | some s=>rw [hs] at h;simp at h
 ·cases h
/-- All that a datum weighs is at most N. -/
def Small {H:Type}(P:Program)(N:Nat)(t:TypeId)(d:DataW H):Prop:=∀ n∈d.weights P t,n≤N
theorem small_of {H:Type}{P:Program}{t:TypeId}{d:DataW H}(h:(d.weights P t).all (·≤reachBytes)=true):Small P reachBytes t d:=fun n hn=>by
 have:=List.all_eq_true.1 h n hn
 simpa using this
theorem weightsAll_mem {H:Type}{P:Program}{e:TypeId}:∀ {l:List (DataW H)} {d:DataW H},d∈l→∀ n∈d.weights P e,n∈DataW.weightsAll P e l
 | [],_,h,_,_=>by simp at h
 | x::l,d,h,n,hn=>by
  simp only [DataW.weightsAll,List.mem_append]
  rcases List.mem_cons.1 h with rfl|h
  ·exact .inl hn
  ·exact .inr (weightsAll_mem h n hn)
/-- The cells of a type that are no structs: where each lies, and its type. -/
def leaves (P:Program):Nat→TypeId→List (Nat × TypeId)
 | 0,t=>[(0,t)]
 | n+1,t=>match P.underlying t with
  | some (.struct fs)=>fs.toList.flatMap fun f=>((leaves P n f.type).filter fun p=>decide (p.1+P.cellsOf p.2≤P.cellsOf f.type)).map fun p=>(f.offset+p.1,p.2)
  | _=>[(0,t)]
section
variable {H:Type}{enc:TypeId × Value→H}{P:Program}{w:World}{base:Nat}{spare:Nat→Bool}{held:Bool}
theorem trod_leaf {N:Nat}:∀ (n:Nat) {fuel:Nat} {t:TypeId} {cs:List Value} {x:DataW H × List MemPlace} (_:DataW.trod enc P w base spare held fuel t cs=some x) (_:Small P N t x.1) (_:cs.length≤P.cellsOf t) (p:Nat × TypeId) (_:p∈leaves P n t),
 ∃ m y,DataW.trod enc P w base spare held m p.2 ((cs.drop p.1).take (P.cellsOf p.2))=some y∧Small P N p.2 y.1
 | 0,fuel,t,cs,x,h,hw,hl,p,hp=>by
  simp only [leaves,List.mem_singleton] at hp
  subst hp
  exact ⟨fuel,x,by simpa [List.take_of_length_le hl] using h,hw⟩
 | n+1,fuel,t,cs,x,h,hw,hl,p,hp=>by
  by_cases hs:∃ fs,P.underlying t=some (.struct fs)
  ·obtain ⟨fs,ht⟩:=hs
   simp only [leaves,ht] at hp
   obtain ⟨f,hf,hp2⟩:=List.mem_flatMap.1 hp
   obtain ⟨q,hq,rfl⟩:=List.mem_map.1 hp2
   obtain ⟨hq1,hq2⟩:=List.mem_filter.1 hq
   have hq3:q.1+P.cellsOf q.2≤P.cellsOf f.type:=of_decide_eq_true hq2
   obtain ⟨xs,m,_,rfl,hcl,hxl,hx⟩:=DataW.trod_struct ht h
   obtain ⟨i,hi,he⟩:=List.getElem_of_mem hf
   have hi2:fs[i]?=some f:=by rw [← he];simp at hi;simp [hi]
   have hgx:=hx i f hi2
   have hix:i<xs.length:=by simp at hi;omega
   rw [List.getElem?_eq_getElem hix] at hgx
   have hsm:Small P N f.type xs[i].1:=by
    intro n' hn'
    apply hw
    simp only [DataW.weights,ht]
    exact DataW.weights_mem_each (j:=i) (t:=f.type) (d:=xs[i].1) (by rw [List.getElem?_map];simp [hi2]) (by rw [List.getElem?_map,List.getElem?_eq_getElem hix];rfl) n' hn'
   obtain ⟨m2,y,hy,hy2⟩:=trod_leaf n hgx hsm (List.length_take_le _ _) q hq1
   refine ⟨m2,y,?_,hy2⟩
   rw [List.drop_take,List.drop_drop,List.take_take] at hy
   rw [show min (P.cellsOf q.2) (P.cellsOf f.type-q.1)=P.cellsOf q.2 by omega] at hy
   exact hy
  ·have:leaves P (n+1) t=[(0,t)]:=by
    unfold leaves
    split
    ·rename_i fs h2;exact absurd ⟨fs,h2⟩ hs
    ·rfl
   rw [this,List.mem_singleton] at hp
   subst hp
   exact ⟨fuel,x,by simpa [List.take_of_length_le hl] using h,hw⟩
/-- A leaf of one cell. -/
theorem trod_leaf1 {N n:Nat}{fuel:Nat}{t:TypeId}{cs:List Value}{x:DataW H × List MemPlace}(h:DataW.trod enc P w base spare held fuel t cs=some x)(hw:Small P N t x.1)(hl:cs.length≤P.cellsOf t){o:Nat}{u:TypeId}(hp:(o,u)∈leaves P n t)(hc:P.cellsOf u=1)(ho:o<cs.length):
 ∃ m y,DataW.trod enc P w base spare held m u [cs[o]]=some y∧Small P N u y.1:=by
 obtain ⟨m,y,hy,hy2⟩:=trod_leaf n h hw hl _ hp
 refine ⟨m,y,?_,hy2⟩
 simp only [hc] at hy
 rw [List.drop_eq_getElem_cons ho] at hy
 exact hy
/-- A slice of structs: each element's leaves lie where they should. -/
theorem open_rows {N n:Nat}{fuel:Nat}{t e:TypeId}{v:Value}{x:DataW H × List MemPlace}(ht:P.underlying t=some (.slice e))(hf:DataW.trod enc P w base (fun _=>true) held fuel t [v]=some x)(hw:Small P N t x.1)(hpos:0<P.cellsOf e):
 ∃ a len cap,v=.slice a len cap∧len≤cap∧cap≤maxLen∧(a=none→cap=0)∧cap*P.bytesOf e≤N∧
  ∀ i,i<len→∃ b off,a=some ⟨b,off,none⟩∧∀ o u,(o,u)∈leaves P n e→P.cellsOf u=1→o<P.cellsOf e→∃ val m y,w.cell? ⟨b,off+i*P.cellsOf e+o,none⟩=some val∧DataW.trod enc P w base (fun _=>true) held m u [val]=some y∧Small P N u y.1:=by
 rcases Go.Deep.open_slice ht hf with ⟨hcs,_⟩|⟨a',len',cap',m,n',D,Pl,hcs,_,hl,hm,hmm,hxx,hx⟩
 ·simp only [List.cons.injEq,and_true] at hcs
  exact ⟨none,0,0,hcs,Nat.le_refl _,by simp [maxLen],fun _=>rfl,by simp,fun i hi=>by omega⟩
 ·simp only [List.cons.injEq,and_true] at hcs
  simp only [if_true] at hmm
  subst hmm
  refine ⟨some a',len',m,hcs,hl,hm,(fun h=>by cases h),?_,fun i hi=>?_⟩
  ·have:=hw ((((List.range len').map D).length+((List.range (m-len')).map fun j=>D (len'+j)).length)*P.bytesOf e) (by rw [hxx];simp only [DataW.weights,ht];exact List.mem_cons_self ..)
   simp only [List.length_map,List.length_range] at this
   rwa [show len'+(m-len')=m by omega] at this
  ·obtain ⟨cs',hc,ht'⟩:=hx i (by omega)
   obtain ⟨_,hlen,hat⟩:=World.cells?_some hc
   have hsD:Small P N e (D i):=by
    intro q hq
    apply hw
    rw [hxx]
    simp only [DataW.weights,ht,List.mem_cons,List.mem_append]
    exact .inr (.inl (weightsAll_mem (List.mem_map.2 ⟨i,List.mem_range.2 hi,rfl⟩) q hq))
   obtain ⟨b,off,spot⟩:=a'
   have hsp:spot=none:=by
    obtain ⟨cs0,hc0,_⟩:=hx 0 (by omega)
    obtain ⟨_,hlen0,hat0⟩:=World.cells?_some hc0
    have h0:=hat0 0 hpos
    rw [List.getElem?_eq_getElem (by omega)] at h0
    have h9:=spot_none h0
    simpa [Addr.add] using h9
   subst hsp
   refine ⟨b,off,rfl,fun o u hp hcu ho=>?_⟩
   obtain ⟨m2,y,hy,hy2⟩:=trod_leaf1 ht' hsD (by omega) hp hcu (by omega)
   refine ⟨cs'[o],m2,y,?_,hy,hy2⟩
   have ad:((Addr.mk b off none).add (i*P.cellsOf e)).add o=⟨b,off+i*P.cellsOf e+o,none⟩:=by
    unfold Addr.add
    by_cases e1:i*P.cellsOf e=0 <;> by_cases e2:o=0 <;> simp [e1,e2]
   have h1:=hat o ho
   rw [ad,List.getElem?_eq_getElem (by omega)] at h1
   exact h1
theorem open_rows_arg {N n:Nat}{r:Reach}{b0:Nat}{t e:TypeId}{v:Value}{d:DataW H}{ps:List MemPlace}(ht:P.underlying t=some (.slice e))(hv:Value.okWide P w r b0 t v)(h:DataW.Trod enc P w base (fun _=>true) held t v d ps)(hw:Small P N t d)(hpos:0<P.cellsOf e):
 ∃ a len cap,v=.slice a len cap∧len≤cap∧cap≤maxLen∧(a=none→cap=0)∧cap*P.bytesOf e≤N∧
  ∀ i,i<len→∃ b off,a=some ⟨b,off,none⟩∧∀ o u,(o,u)∈leaves P n e→P.cellsOf u=1→o<P.cellsOf e→∃ val m y,w.cell? ⟨b,off+i*P.cellsOf e+o,none⟩=some val∧DataW.trod enc P w base (fun _=>true) held m u [val]=some y∧Small P N u y.1:=by
 obtain ⟨a,len,cap,rfl⟩:=okWide_slice ht hv
 obtain ⟨fuel,hf⟩:=h
 exact open_rows ht hf hw hpos
end
end Go.Proofs.YtdjpjfdeeelijaaGreatDoor
namespace Go.Proofs.YtdjpjfdeeelijaaGreatDoor
open Go.ChangeShapes Go.WideShapes Go.ChangeAt Go.RowKit Go.Joins
theorem own:ownKnob Tryz.prog.godebug=none:=by kernel_rfl
theorem laidOut:laidOutB Tryz.prog=true:=by kernel_rfl
end Go.Proofs.YtdjpjfdeeelijaaGreatDoor
namespace Go.Proofs.YtdjpjfdeeelijaaGreatDoor
open Go.RowKit Go.Sort
def rdB (l:BL)(off n:Int):BL:=(l.drop off.toNat).take n.toNat
def ReadPost (w:World)(l:BL)(e:Ending)(w':World):Prop:=∃ v,e=.returned (.tuple #[v,.int .i64 0])∧w'.ownsRow w.heap.size 5 1 v l.length (l.map B8)∧Below w.heap.size w w'
theorem add_zero_addr (a:Option Addr):a.map (·.add 0)=a:=by cases a <;> simp [Addr.add]
theorem from_slice (av:Option Addr)(len cv f:Nat)(x:Int)(hx:x=(f:Int))(hf:f≤len)(hcv:len≤cv):∃ a2,(∀ w,(Instr.slice 89 (.slice av len cv) (some (.int .i64 x)) none none).run Tryz.prog w=.ok (.slice a2 (len-f) (cv-f)) w)∧(a2=none→av=none)∧∀ w cs,Cel w av len cs→Cel w a2 (len-f) (cs.drop f):=by
 subst hx
 have hz:∀ w,(sizeOf (Tryz.prog.elem 89)).run Tryz.prog w=.ok 1 w:=fun w=>by kernel_rfl
 refine ⟨if cv=f then av else av.map (·.add (f*1)),fun w=>?_,fun h=>?_,fun w cs h=>?_⟩
 ·rw [run_slice_l w 89 _ _ _ (by kernel_rfl) .i64 f (by omega) (by omega),hz]
  simp only [Result.andThen,sliced,Int.toNat_natCast]
 ·split at h
  ·exact h
  ·cases av with
   | none=>rfl
   | some a=>cases h
 ·have hl:=h.hlen
  refine ⟨by simp;omega,fun i hi=>?_⟩
  have hi':f+i<cs.length:=by simp at hi;omega
  obtain ⟨b,o,rfl,hc⟩:=h.cell (f+i) hi'
  rw [if_neg (by omega)]
  refine ⟨b,o+f,?_,?_⟩
  ·simp only [Option.map_some,Addr.add,Nat.mul_one]
   split
   ·rename_i h0;rw [h0];rfl
   ·rfl
  ·rw [show o+f+i=o+(f+i) by omega,hc]
   simp
theorem to_slice (av:Option Addr)(len cv m:Nat)(x:Int)(hx:x=(m:Int))(hm:m≤len)(hcv:len≤cv)(w:World):(Instr.slice 89 (.slice av len cv) none (some (.int .i64 x)) none).run Tryz.prog w=.ok (.slice av m cv) w:=by
 subst hx
 have hz:∀ w,(sizeOf (Tryz.prog.elem 89)).run Tryz.prog w=.ok 1 w:=fun w=>by kernel_rfl
 rw [run_slice_h w 89 _ _ _ (by kernel_rfl) .i64 m (by omega) (by omega),hz]
 simp only [Result.andThen,sliced,Int.toNat_natCast,Nat.zero_mul,add_zero_addr,Nat.sub_zero]
 split <;> rfl
set_option maxRecDepth 100000 in
set_option maxHeartbeats 4000000 in
theorem read_file (F:Nat)(t:FT)(i:Nat)(off n:Int)(w:World)(h:FSat w F t)(hi:i<t.L.length)(hk2:¬ (t.nd i).kind=2)(hk3:¬ (t.nd i).kind=3)(ho:0≤off)(hn:0≤n):
 Calls Tryz.prog 77 #[.pointer (some ⟨F,0,none⟩),.int .i64 i,.int .i64 off,.int .i64 n] w (ReadPost w (rdB (t.nd i).data off n)):=by
 obtain ⟨v,hr,hv⟩:=(h.node i hi).file hk2 hk3
 obtain ⟨_,_,_,_,k8⟩:=hd_cells hr
 have hl:=hr.lt
 have HN:=hid (node_in F t i w h hi)
 have hd:=(h.fine.data i hi).1
 have hta:=ta_ff (t.bk i)
 have d0:decide (off<0)=false:=by simpa using ho
 have d1:decide (n<0)=false:=by simpa using hn
 obtain ⟨av,cv,rfl,hc,hnil,hcv,hcm⟩:=own_cel hv
 generalize hdd:(t.nd i).data=data at *
 have hd2:data.length≤65536:=by rw [← hdd];exact hd
 have HC:=hid hc
 clear hr h hv hd hdd hc
 go_enter Tryz.func77,Tryz.ntmps77
 go_wp2_with fail
 refine (HN.out).mono ?_
 rintro e' w1 ⟨rfl,rfl⟩
 rw [if_neg hk2,if_neg hk3]
 have hid9:=isDir_any (t.nd i).kind (t.bk i) w
 rw [ndV_kind,if_neg hk2,if_neg hk3,decide_eq_false hk2] at hid9
 have HID:=hid hid9
 clear hid9 hk2 hk3
 go_wp2_with fail
 refine (HID.out).mono ?_
 rintro e' w1 ⟨rfl,rfl⟩
 obtain ⟨f,hf⟩:∃ f:Nat,(f:Int)=min off (data.length:Int):=⟨(min off (data.length:Int)).toNat,by omega⟩
 have hfl:f≤data.length:=by omega
 have hfo:data.drop f=data.drop off.toNat:=by
  by_cases h9:off≤(data.length:Int)
  ·congr 1;omega
  ·rw [List.drop_eq_nil_of_le (by omega),List.drop_eq_nil_of_le (by omega)]
 obtain ⟨a2,hs1,ha2,hcel2⟩:=from_slice av data.length cv f (min off (data.length:Int)) hf.symm hfl hcv
 have HC2:=hid (hcel2 w _ HC.out)
 obtain ⟨L2,hL2⟩:∃ L2,L2=data.length-f:=⟨_,rfl⟩
 obtain ⟨m,hm⟩:∃ m:Nat,(m:Int)=min n (L2:Int):=⟨(min n (L2:Int)).toNat,by omega⟩
 have hml:m≤L2:=by omega
 have hs2:=to_slice a2 L2 (cv-f) m (min n (L2:Int)) hm.symm hml (by omega)
 have hrd:rdB data off n=(data.drop f).take m:=by
  unfold rdB
  rw [← hfo]
  by_cases h9:n≤(L2:Int)
  ·congr 1;omega
  ·rw [List.take_of_length_le (by simp;omega),List.take_of_length_le (by simp;omega)]
 have hlm:(rdB data off n).length=m:=by rw [hrd];simp;omega
 rw [← hL2] at hs1 HC2
 have HN1:=hid (show ((rdB data off n).map B8).length=m*1 by rw [List.length_map,hlm];omega)
 have hc3:Cel w a2 m ((rdB data off n).map B8):=by
  have:=HC2.out.prefix hml
  rw [← List.map_drop,← List.map_take,← hrd] at this
  exact this
 have HN2:=hid (show ∀ ad,a2=some ad→∀ j u,((rdB data off n).map B8)[j]?=some u→w.cell? (ad.add j)=some u by rintro ad rfl;exact hc3.news)
 have HN3:=hid (show a2=none→m=0∧cv-f=0 by
  intro e
  have h1:=ha2 e
  have h2:=hnil h1
  omega)
 have HN4:=hid (b8_one (rdB data off n))
 have HN5:=hid (show m≤maxLen by unfold maxLen;omega)
 have HN6:=hid (show m*1≤140737488355328 by omega)
 have HLM:=hid hlm
 obtain ⟨i0,hi0,hz0,hz1,hz2⟩:=info_parts infoU8
 clear hf hfl hfo ha2 hcel2 hL2 hm hml hrd hlm hc3 hnil hcv hcm ho hn
 go_wp2_with (at_builtin;go_must (refine wpList_append_nil rfl _ _ 89 rfl 5 i0 (.int .u8 0) 1 1 Tryz.underlying89 hi0 hz0 hz1 hz2 rfl (by decide) rfl a2 m (cv-f) rfl ((rdB data off n).map B8) HN1.out HN2.out HN3.out HN4.out HN5.out HN6.out ?_;intro v2 w2 hown hgrow;have HO:=hid hown;have HG:=hid hgrow;clear hown hgrow))
 go_ret2
 exact ⟨v2,rfl,by rw [HLM.out];exact HO.out,(Below.refl _ w).grown HG.out (Nat.le_refl _) (fun k e=>by cases e)⟩
theorem Row.rk {w:World}{g:Nat}{E:TypeId}{k:Nat}{rows:List (List Value)}(h:Row w g E rows.flatten)(hk:∀ r∈rows,r.length=k):Rk w k (some ⟨g,0,none⟩) rows.length rows:=by
 refine ⟨rfl,fun i hi=>⟨hk _ (List.getElem_mem hi),g,0,rfl,fun j hj=>?_⟩⟩
 have:=flat_at hk hi hj
 rw [h.cell',Nat.zero_add,this]
theorem ents_of {w:World}{g:Nat}{xs:List EN}(h:Row w g 131 ((xs.map EN.cs).flatten))(ho:∀ x∈xs,EnOk w x):Ents w (some ⟨g,0,none⟩) xs.length xs:=by
 have:=h.rk (k:=7) (by intro r hr;obtain ⟨x,_,rfl⟩:=List.mem_map.1 hr;rfl)
 rw [List.length_map] at this
 exact ⟨this,ho⟩
theorem own_byt {w:World}{base n:Nat}{v:Value}{l:List UInt8}(h:w.ownsRow base 5 1 v n (l.map B8)):∃ a c,v=.slice a n c∧Byt w a n l:=by
 obtain ⟨a,c,e,hc,_⟩:=own_cel h
 refine ⟨a,c,e,by have:=hc.hlen;simpa using this,fun i hi=>?_⟩
 obtain ⟨b,off,e2,h2⟩:=hc.cell i (by simpa using hi)
 exact ⟨b,off,e2,by rw [h2];simp [B8]⟩
open Go.ChangeShapes Go.WideShapes Go.ChangeAt
theorem Row.three {w:World}{g:Nat}{E:TypeId}{a b c:Value}(h:Row w g E [a,b,c]):w.cell? ⟨g,0,none⟩=some a∧w.cell? ⟨g,1,none⟩=some b∧w.cell? ⟨g,2,none⟩=some c:=⟨h.cell 0 (by simp),h.cell 1 (by simp),h.cell 2 (by simp)⟩
section
variable {H:Type}{enc:TypeId × Value→H}{w:World}{held:Bool}
theorem leaf_int {P:Program}{sp:Nat→Bool}{m:Nat}{u:TypeId}{k:IntKind}{v:Value}{y:DataW H × List MemPlace}(ht:P.underlying u=some (.int k))(h:DataW.trod enc P w 0 sp held m u [v]=some y):∃ i,v=.int k i∧(Lit.int k i).wf=true:=by
 obtain ⟨x,e,_,hw⟩:=DataW.trod_int ht h
 simp only [List.cons.injEq,and_true] at e
 exact ⟨x,e,hw⟩
theorem leaf_bool {P:Program}{sp:Nat→Bool}{m:Nat}{u:TypeId}{v:Value}{y:DataW H × List MemPlace}(ht:P.underlying u=some .bool)(h:DataW.trod enc P w 0 sp held m u [v]=some y):∃ b,v=.bool b:=by
 obtain ⟨x,e,_⟩:=DataW.trod_bool ht h
 simp only [List.cons.injEq,and_true] at e
 exact ⟨x,e⟩
end
end Go.Proofs.YtdjpjfdeeelijaaGreatDoor
namespace Go.Proofs.YtdjpjfdeeelijaaGreatDoor
open Go.RowKit Go.Sort
attribute [local go_sem] Oper.semAt_some
theorem infoB:(Tryz.prog.info? 5).map (fun i=>(i.zero,i.size,i.bytes))=some (some (.int .u8 0),1,1):=by kernel_rfl
/-- A list of bytes of the call's own: nothing, or a new row. -/
def NewB (w w':World)(v:Value)(l:List UInt8):Prop:=
 (l=[]∧v=.slice none 0 0)∨(l≠[]∧v=.slice (some ⟨w.heap.size,0,none⟩) l.length l.length∧Row w' w.heap.size 5 (l.map B8))
set_option maxHeartbeats 1000000 in
theorem cpb_any (a:Option Addr)(len cap:Nat)(l:List UInt8)(w:World)(hB:Byt w a len l)(hl:len≤140737488351232):
 Calls Tryz.prog 72 #[.slice a len cap] w fun e w'=>∃ v,e=.returned v∧NewB w w' v l∧Below w.heap.size w w':=by
 obtain rfl:=hB.hlen
 by_cases h0:l.length=0
 ·have hb0:((l.length:Int)==0)=true:=by rw [beq_iff_eq];omega
  have hnil:l=[]:=List.length_eq_zero_iff.1 h0
  have HN:=hid hnil
  clear hnil h0
  go_enter Tryz.func72,Tryz.ntmps72
  go_wp2
  go_ret
  exact ⟨_,rfl,.inl ⟨HN.out,rfl⟩,Below.refl _ _⟩
 ·have hb0:((l.length:Int)==0)=false:=by rw [beq_eq_false_iff_ne];omega
  obtain ⟨bb,off,rfl,hcell⟩:=hB.some_of (by omega)
  go_enter Tryz.func72,Tryz.ntmps72
  go_wp2_with (at_make;refine wpList_make_row _ rfl _ _ 89 rfl 5 (.int .u8 0) 1 Tryz.underlying89 infoB rfl .i64 .i64 _ _ l.length rfl rfl (by omega) (by omega) (by omega) (by omega) ?_;intro w1 hr1 hb1 hs1)
  have hfz:=fillD_full (l.map B8) (.int .u8 0)
  rw [List.length_map] at hfz
  rw [← hfz] at hr1
  clear hfz
  go_loopw [4] (fun i wr=>∃ k:Nat,k≤l.length∧i=.int .i64 ((k:Int)-1)∧Row wr w.heap.size 5 (fillD (l.map B8) (.int .u8 0) k)∧Below w.heap.size w wr) (fun i _=>(intOf i+1).toNat)
  case atStart=>exact ⟨l.length,Nat.le_refl _,rfl,hr1,hb1⟩
  case round=>
   obtain ⟨k,hk,rfl,hr,hb⟩:=hrel
   rcases Nat.eq_zero_or_pos k with rfl|hpos
   ·go_wp2
    go_ret
    rw [fillD_zero] at hr
    exact ⟨_,rfl,.inr ⟨by intro e;subst e;simp at hb0,rfl,hr⟩,hb⟩
   ·obtain ⟨j,rfl⟩:∃ j,k=j+1:=⟨k-1,by omega⟩
    have hj:j<l.length:=by omega
    have hx:=hcell j hj
    have hold:=World.block_lt_of_cell? w _ hx
    have hx':_=_:=(hb.cell hold).trans hx
    have hfr:=hr.frozen j
    have hc:=hr.cell j (by rw [fillD_len _ _ _ (by simp;omega)];simpa using hj)
    clear hx hold
    go_wp2
    go_roundw
    case rel=>exact ⟨j,by omega,by go_num,hr.fillD (by simpa using hj) (map_at l j hj),hb.setCell (Nat.le_refl _) _⟩
    case measure=>simp [intOf]
theorem Byt.same {w w':World}{n:Nat}{a:Option Addr}{l:List UInt8}(h:Byt w a n l)(hk:∀ b,a=some b→w'.heap[b.block]?=w.heap[b.block]?):Byt w' a n l:=
 ⟨h.hlen,fun i hi=>by
  obtain ⟨b,off,e,hc⟩:=h.cell i hi
  refine ⟨b,off,e,?_⟩
  rw [World.cell?_of_block (a:=⟨b,off+i,none⟩) (hk ⟨b,off,none⟩ e)]
  exact hc⟩
open Go.ChangeShapes Go.WideShapes Go.ChangeAt
theorem list_of {α:Type}(P:Nat→α→Prop):∀ n,(∀ i,i<n→∃ x,P i x)→∃ l:List α,l.length=n∧∀ i (hi:i<l.length),P i l[i]
 | 0,_=>⟨[],rfl,fun i hi=>by simp at hi⟩
 | n+1,h=>by
  obtain ⟨l,hl,hp⟩:=list_of P n (fun i hi=>h i (by omega))
  obtain ⟨x,hx⟩:=h n (by omega)
  refine ⟨l++[x],by simp [hl],fun i hi=>?_⟩
  by_cases e:i<l.length
  ·rw [List.getElem_append_left e];exact hp i e
  ·have:i=n:=by simp at hi;omega
   subst this
   rw [List.getElem_append_right (by omega)]
   simp [hl]
   exact hx
end Go.Proofs.YtdjpjfdeeelijaaGreatDoor
namespace Go.Proofs.YtdjpjfdeeelijaaGreatDoor
open Go.RowKit Go.Sort
theorem St.size {W w:World}(h:St W w):W.heap.size≤w.heap.size:=Below.size h
open Go.ChangeShapes Go.WideShapes Go.ChangeAt
attribute [local go_sem] Oper.semAt_some
def readL (L:List ND)(ino off n:Int):BL × Int:=
 if ¬ (0≤ino∧ino<(L.length:Int)) then ([],3) else
 if (L.getD ino.toNat default).kind=2 then ([],9) else
 if (L.getD ino.toNat default).kind=3∨off<0∨n<0 then ([],1) else (rdB (L.getD ino.toNat default).data off n,0)
/-- What Read gives back. -/
def RdPost (w:World)(r:BL × Int)(e:Ending)(w':World):Prop:=∃ v,e=.returned (.tuple #[v,.int .i64 r.2])∧w'.ownsRow w.heap.size 5 1 v r.1.length (r.1.map B8)∧Below w.heap.size w w'
theorem own_nilB (w:World)(B:Nat):w.ownsRow B 5 1 (.slice none 0 0) ([]:BL).length (([]:BL).map B8):=⟨rfl,.inl ⟨rfl,rfl⟩⟩
theorem readL_out {L:List ND}{ino off n:Int}(h:¬ (0≤ino∧ino<(L.length:Int))):readL L ino off n=([],3):=by unfold readL;rw [if_pos h]
theorem readL_dir {L:List ND}{i:Nat}{off n:Int}(h:i<L.length)(h2:(L.getD i default).kind=2):readL L i off n=([],9):=by
 unfold readL
 rw [if_neg (by omega),Int.toNat_natCast,if_pos h2]
theorem readL_bad {L:List ND}{i:Nat}{off n:Int}(h:i<L.length)(h2:¬ (L.getD i default).kind=2)(h3:(L.getD i default).kind=3∨off<0∨n<0):readL L i off n=([],1):=by
 unfold readL
 rw [if_neg (by omega),Int.toNat_natCast,if_neg h2,if_pos h3]
theorem readL_in {L:List ND}{i:Nat}{off n:Int}(h:i<L.length)(h2:¬ (L.getD i default).kind=2)(h3:¬ ((L.getD i default).kind=3∨off<0∨n<0)):readL L i off n=(rdB (L.getD i default).data off n,0):=by
 unfold readL
 rw [if_neg (by omega),Int.toNat_natCast,if_neg h2,if_neg h3]
set_option maxRecDepth 100000 in
set_option maxHeartbeats 4000000 in
theorem read_any (F:Nat)(t:FT)(ino off n:Int)(w:World)(h:FSat w F t):
 Calls Tryz.prog 77 #[.pointer (some ⟨F,0,none⟩),.int .i64 ino,.int .i64 off,.int .i64 n] w (RdPost w (readL t.L ino off n)):=by
 by_cases hin:0≤ino∧ino<(t.L.length:Int)
 ·obtain ⟨i,rfl⟩:=Int.eq_ofNat_of_zero_le hin.1
  have hi:i<t.L.length:=by omega
  by_cases h2:(t.nd i).kind=2
  ·rw [readL_dir hi h2]
   have HN:=hid (node_in F t i w h hi)
   rw [if_pos h2] at HN
   have hid9:=isDir_any (t.nd i).kind (t.bk i) w
   rw [ndV_kind,if_pos h2,decide_eq_true h2] at hid9
   have HID:=hid hid9
   clear hid9 h2 h
   go_enter Tryz.func77,Tryz.ntmps77
   go_wp2_with fail
   refine (HN.out).mono ?_
   rintro e' w1 ⟨rfl,rfl⟩
   go_wp2_with fail
   refine (HID.out).mono ?_
   rintro e' w1 ⟨rfl,rfl⟩
   go_wp2_with fail
   go_ret2
   exact ⟨_,rfl,own_nilB _ _,Below.refl _ _⟩
  ·by_cases h3:(t.nd i).kind=3
   ·rw [readL_bad hi h2 (.inl h3)]
    have HN:=hid (node_in F t i w h hi)
    rw [if_neg h2,if_pos h3] at HN
    have hid9:=isDir_any (t.nd i).kind (t.bk i) w
    rw [ndV_kind,if_neg h2,if_pos h3,decide_eq_false h2] at hid9
    have HID:=hid hid9
    have hta:=ta_fl (t.bk i)
    clear hid9 h2 h3 h
    go_enter Tryz.func77,Tryz.ntmps77
    go_wp2_with fail
    refine (HN.out).mono ?_
    rintro e' w1 ⟨rfl,rfl⟩
    go_wp2_with fail
    refine (HID.out).mono ?_
    rintro e' w1 ⟨rfl,rfl⟩
    go_wp2_with fail
    go_ret2
    exact ⟨_,rfl,own_nilB _ _,Below.refl _ _⟩
   ·by_cases h4:off<0∨n<0
    ·rw [readL_bad hi h2 (.inr h4)]
     have HN:=hid (node_in F t i w h hi)
     rw [if_neg h2,if_neg h3] at HN
     have hid9:=isDir_any (t.nd i).kind (t.bk i) w
     rw [ndV_kind,if_neg h2,if_neg h3,decide_eq_false h2] at hid9
     have HID:=hid hid9
     have hta:=ta_ff (t.bk i)
     clear hid9 h2 h3 h
     by_cases h5:off<0
     ·have d0:decide (off<0)=true:=by simpa using h5
      clear h4
      go_enter Tryz.func77,Tryz.ntmps77
      go_wp2_with fail
      refine (HN.out).mono ?_
      rintro e' w1 ⟨rfl,rfl⟩
      go_wp2_with fail
      refine (HID.out).mono ?_
      rintro e' w1 ⟨rfl,rfl⟩
      go_wp2_with fail
      go_ret2
      exact ⟨_,rfl,own_nilB _ _,Below.refl _ _⟩
     ·have d0:decide (off<0)=false:=by simpa using h5
      have d1:decide (n<0)=true:=by simp;omega
      clear h4
      go_enter Tryz.func77,Tryz.ntmps77
      go_wp2_with fail
      refine (HN.out).mono ?_
      rintro e' w1 ⟨rfl,rfl⟩
      go_wp2_with fail
      refine (HID.out).mono ?_
      rintro e' w1 ⟨rfl,rfl⟩
      go_wp2_with fail
      go_ret2
      exact ⟨_,rfl,own_nilB _ _,Below.refl _ _⟩
    ·rw [readL_in hi h2 (by rintro (h|h);exact h3 h;exact h4 h)]
     refine (read_file F t i off n w h hi h2 h3 (by omega) (by omega)).mono ?_
     rintro e w' ⟨v,rfl,h7,h8⟩
     exact ⟨v,rfl,h7,h8⟩
 ·rw [readL_out hin]
  have HN:=hid (node_out F t ino w h hin)
  clear h
  go_enter Tryz.func77,Tryz.ntmps77
  go_wp2_with fail
  refine (HN.out).mono ?_
  rintro e' w1 ⟨rfl,rfl⟩
  go_wp2_with fail
  go_ret2
  exact ⟨_,rfl,own_nilB _ _,Below.refl _ _⟩
end Go.Proofs.YtdjpjfdeeelijaaGreatDoor
