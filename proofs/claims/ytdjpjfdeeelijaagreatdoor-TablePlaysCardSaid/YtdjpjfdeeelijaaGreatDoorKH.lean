/- Merged: FA FB. -/
import Derived.Test.YtdjpjfdeeelijaaGreatDoorW03
import Derived.StillTailTactics
namespace Go.Proofs.YtdjpjfdeeelijaaGreatDoor
open Go.RowKit Go.Sort
/-- The paths of the nodes. -/
def pathsL (L:List ND):List (BL × Nat):=(List.range L.length).map fun i=>((L.getD i default).path,i)
def lookK (L:List ND)(p:BL):Option Nat:=lookI (pathsL L) p
def FT.kn (t:FT):NL:=(pathsL t.L).map fun p=>(p.1,t.pt p.2)
def newN (ds:List BL)(j:Nat)(x:EN):ND:=⟨pathJ ds,j,x.kind,x.mode,x.uid,x.gid,(x.data.length:Nat),[],x.data,x.to⟩
def addN (L:List ND)(j:Nat)(nm:BL)(nd:ND):List ND:=L.set j { L.getD j default with names:=(L.getD j default).names++[(nm,L.length)] }++[nd]
/-- A file system that is being made. -/
structure Bld (w:World)(F K:Nat)(t:FT):Prop where
 fs:FSat w F t
 kn:NMap w K t.kn
 bl:t.bs.length=t.L.length
 ml:t.ms.length=t.L.length
 mK:∀ i,i<t.L.length→(t.nd i).kind=2→t.mp i≠K
 mm:∀ i j,i<t.L.length→j<t.L.length→(t.nd i).kind=2→(t.nd j).kind=2→i≠j→t.mp i≠t.mp j
theorem addN_len (L:List ND)(j:Nat)(nm:BL)(nd:ND):(addN L j nm nd).length=L.length+1:=by simp [addN]
theorem addN_old (L:List ND)(j:Nat)(nm:BL)(nd:ND){i:Nat}(hi:i<L.length)(hij:i≠j):(addN L j nm nd).getD i default=L.getD i default:=by
 unfold addN
 rw [List.getD_eq_getElem?_getD,List.getElem?_append_left (by simpa using hi),List.getElem?_set_ne (Ne.symm hij),← List.getD_eq_getElem?_getD]
theorem addN_at (L:List ND)(j:Nat)(nm:BL)(nd:ND)(hj:j<L.length):(addN L j nm nd).getD j default={ L.getD j default with names:=(L.getD j default).names++[(nm,L.length)] }:=by
 unfold addN
 rw [List.getD_eq_getElem?_getD,List.getElem?_append_left (by simpa using hj),List.getElem?_set_self hj]
 rfl
theorem addN_new (L:List ND)(j:Nat)(nm:BL)(nd:ND):(addN L j nm nd).getD L.length default=nd:=by
 unfold addN
 rw [List.getD_eq_getElem?_getD,List.getElem?_append_right (by simp)]
 simp
/-- What does not turn in the nodes that were there: all but the names. -/
theorem addN_same (L:List ND)(j:Nat)(nm:BL)(nd:ND){i:Nat}(hi:i<L.length):∃ ns,(addN L j nm nd).getD i default={ L.getD i default with names:=ns }∧(i≠j→ns=(L.getD i default).names)∧(i=j→ns=(L.getD i default).names++[(nm,L.length)]):=by
 by_cases h:i=j
 ·subst h
  exact ⟨_,addN_at L i nm nd hi,fun h=>absurd rfl h,fun _=>rfl⟩
 ·exact ⟨_,by rw [addN_old L j nm nd hi h],fun _=>rfl,fun e=>absurd e h⟩
theorem Fine.add {L:List ND}(h:Fine L){j:Nat}(hj:j<L.length)(hk:(L.getD j default).kind=2){nm:BL}{nd:ND}(hl:L.length≤64)(hu:nd.up=j)(hn:nd.names=[])(hd:nd.data.length≤65536∧nd.size=(nd.data.length:Nat))(hm:0≤nd.mode∧nd.mode≤65535)(hp:nd.path.length≤1000000)(ht:nd.to.length≤200):Fine (addN L j nm nd):=by
 have old:∀ i,i<(addN L j nm nd).length→i<L.length∨i=L.length:=fun i hi=>by rw [addN_len] at hi;omega
 have e0:(addN L j nm nd).getD L.length default=nd:=addN_new L j nm nd
 have kind:∀ i,i<L.length→((addN L j nm nd).getD i default).kind=(L.getD i default).kind:=fun i hi=>by
  obtain ⟨ns,e,_⟩:=addN_same L j nm nd hi
  rw [e]
 refine ⟨by rw [addN_len];omega,by rw [addN_len];omega,by rw [kind 0 h.pos];exact h.root,?_,?_,?_,?_,?_,?_,?_⟩
 ·intro i hi
  rw [addN_len]
  rcases old i hi with h1|rfl
  ·obtain ⟨ns,e,_⟩:=addN_same L j nm nd h1
   have:=h.up i h1
   rw [e]
   dsimp only
   exact ⟨by omega,by rw [kind _ this.1];exact this.2⟩
  ·rw [e0,hu]
   exact ⟨by omega,by rw [kind j hj];exact hk⟩
 ·intro i hi p hp'
  rw [addN_len]
  rcases old i hi with h1|rfl
  ·obtain ⟨ns,e,h2,h3⟩:=addN_same L j nm nd h1
   rw [e] at hp'
   dsimp only at hp'
   by_cases hij:i=j
   ·rw [h3 hij] at hp'
    rcases List.mem_append.1 hp' with h4|h4
    ·have:=h.names i h1 p h4;omega
    ·rw [List.mem_singleton.1 h4];dsimp only;omega
   ·rw [h2 hij] at hp'
    have:=h.names i h1 p hp';omega
  ·rw [e0,hn] at hp';cases hp'
 ·intro i hi
  rw [addN_len]
  rcases old i hi with h1|rfl
  ·obtain ⟨ns,e,h2,h3⟩:=addN_same L j nm nd h1
   rw [e]
   dsimp only
   have:=h.many i h1
   by_cases hij:i=j
   ·rw [h3 hij,List.length_append,List.length_singleton];omega
   ·rw [h2 hij];omega
  ·rw [e0,hn];simp
 ·intro i hi
  rcases old i hi with h1|rfl
  ·obtain ⟨ns,e,_⟩:=addN_same L j nm nd h1
   rw [e];exact h.data i h1
  ·rw [e0];exact hd
 ·intro i hi
  rcases old i hi with h1|rfl
  ·obtain ⟨ns,e,_⟩:=addN_same L j nm nd h1
   rw [e];exact h.mode i h1
  ·rw [e0];exact hm
 ·intro i hi
  rcases old i hi with h1|rfl
  ·obtain ⟨ns,e,_⟩:=addN_same L j nm nd h1
   rw [e];exact h.path i h1
  ·rw [e0];exact hp
 ·intro i hi
  rcases old i hi with h1|rfl
  ·obtain ⟨ns,e,_⟩:=addN_same L j nm nd h1
   rw [e];exact h.to i h1
  ·rw [e0];exact ht
theorem NMap.obj {w:World}{m:Nat}{l:NL}(h:NMap w m l):∃ es c,w.heap[m]?=some (.map es c):=by
 obtain ⟨es,c,hm,_⟩:=h
 exact ⟨es,c,hm⟩
/-- The tree with one node more. -/
def FT.add (t:FT)(j:Nat)(nm:BL)(nd:ND)(b m:Nat):FT:=⟨addN t.L j nm nd,t.bs++[b],t.ms++[m]⟩
section
variable {t:FT}{j b m:Nat}{nm:BL}{nd:ND}
theorem add_bk (hb:t.bs.length=t.L.length){i:Nat}(hi:i<t.L.length):(t.add j nm nd b m).bk i=t.bk i:=by
 unfold FT.bk FT.add
 dsimp only
 rw [List.getD_eq_getElem?_getD,List.getElem?_append_left (by omega),← List.getD_eq_getElem?_getD]
theorem add_mp (hb:t.ms.length=t.L.length){i:Nat}(hi:i<t.L.length):(t.add j nm nd b m).mp i=t.mp i:=by
 unfold FT.mp FT.add
 dsimp only
 rw [List.getD_eq_getElem?_getD,List.getElem?_append_left (by omega),← List.getD_eq_getElem?_getD]
theorem add_bk_new (hb:t.bs.length=t.L.length):(t.add j nm nd b m).bk t.L.length=b:=by
 unfold FT.bk FT.add
 dsimp only
 rw [List.getD_eq_getElem?_getD,← hb]
 simp
theorem add_mp_new (hb:t.ms.length=t.L.length):(t.add j nm nd b m).mp t.L.length=m:=by
 unfold FT.mp FT.add
 dsimp only
 rw [List.getD_eq_getElem?_getD,← hb]
 simp
theorem add_nd {i:Nat}(hi:i<t.L.length):∃ ns,(t.add j nm nd b m).nd i={ t.nd i with names:=ns }∧(i≠j→ns=(t.nd i).names)∧(i=j→ns=(t.nd i).names++[(nm,t.L.length)]):=addN_same t.L j nm nd hi
theorem add_nd_new:(t.add j nm nd b m).nd t.L.length=nd:=addN_new t.L j nm nd
theorem add_pt (hb:t.bs.length=t.L.length){i:Nat}(hi:i<t.L.length):(t.add j nm nd b m).pt i=t.pt i:=by
 unfold FT.pt
 rw [add_bk hb hi]
 obtain ⟨ns,e,_⟩:=add_nd (t:=t) (j:=j) (b:=b) (m:=m) (nm:=nm) (nd:=nd) hi
 rw [e]
theorem add_pt_new (hb:t.bs.length=t.L.length):(t.add j nm nd b m).pt t.L.length=(ndT nd.kind,b):=by
 unfold FT.pt
 rw [add_bk_new hb,add_nd_new]
theorem add_hd (hb:t.bs.length=t.L.length)(hf:Fine t.L){i:Nat}(hi:i<t.L.length):(t.add j nm nd b m).hd i=t.hd i:=by
 unfold FT.hd
 obtain ⟨ns,e,_⟩:=add_nd (t:=t) (j:=j) (b:=b) (m:=m) (nm:=nm) (nd:=nd) hi
 rw [e]
 dsimp only
 rw [show (t.add j nm nd b m).bk (t.nd i).up=t.bk (t.nd i).up from add_bk hb (hf.up i hi).1]
theorem add_kn (hb:t.bs.length=t.L.length):(t.add j nm nd b m).kn=t.kn++[(nd.path,(ndT nd.kind,b))]:=by
 unfold FT.kn pathsL
 rw [show (t.add j nm nd b m).L.length=t.L.length+1 from addN_len _ _ _ _,List.range_succ,List.map_append,List.map_append]
 congr 1
 ·rw [List.map_map,List.map_map]
  apply List.map_congr_left
  intro i hi
  have hi':=List.mem_range.1 hi
  simp only [Function.comp]
  obtain ⟨ns,e,_⟩:=add_nd (t:=t) (j:=j) (b:=b) (m:=m) (nm:=nm) (nd:=nd) hi'
  rw [add_pt hb hi',show ((t.add j nm nd b m).L.getD i default).path=(t.L.getD i default).path by
   have e2:(t.add j nm nd b m).L.getD i default={ t.L.getD i default with names:=ns }:=e
   rw [e2]]
 ·simp only [List.map_cons,List.map_nil]
  rw [add_pt_new hb,show (t.add j nm nd b m).L.getD t.L.length default=nd from add_nd_new]
theorem add_ndVs (hb:t.bs.length=t.L.length):(List.range (t.L.length+1)).map (fun i=>ndV ((t.add j nm nd b m).pt i))=(List.range t.L.length).map (fun i=>ndV (t.pt i))++[ndV (ndT nd.kind,b)]:=by
 rw [List.range_succ,List.map_append]
 congr 1
 ·apply List.map_congr_left
  intro i hi
  rw [add_pt hb (List.mem_range.1 hi)]
 ·simp only [List.map_cons,List.map_nil]
  rw [add_pt_new hb]
theorem add_nl_other (hb:t.bs.length=t.L.length)(hf:Fine t.L){i:Nat}(hi:i<t.L.length)(hij:i≠j):(t.add j nm nd b m).nl i=t.nl i:=by
 unfold FT.nl
 obtain ⟨ns,e,h2,_⟩:=add_nd (t:=t) (j:=j) (b:=b) (m:=m) (nm:=nm) (nd:=nd) hi
 rw [e]
 dsimp only
 rw [h2 hij]
 apply List.map_congr_left
 intro p hp
 rw [add_pt hb (hf.names i hi p hp)]
theorem add_nl_at (hb:t.bs.length=t.L.length)(hf:Fine t.L)(hj:j<t.L.length):(t.add j nm nd b m).nl j=t.nl j++[(nm,(ndT nd.kind,b))]:=by
 unfold FT.nl
 obtain ⟨ns,e,_,h3⟩:=add_nd (t:=t) (j:=j) (b:=b) (m:=m) (nm:=nm) (nd:=nd) hj
 rw [e]
 dsimp only
 rw [h3 rfl,List.map_append]
 congr 1
 ·apply List.map_congr_left
  intro p hp
  rw [add_pt hb (hf.names j hj p hp)]
 ·simp only [List.map_cons,List.map_nil]
  rw [add_pt_new hb]
end
/-- All the blocks but four stand. -/
structure Stand (w3 w7:World)(mj K F:Nat)(v:Value):Prop where
 keep:∀ b,b<w3.heap.size→b≠mj→b≠K→b≠F→some b≠v.ownBlock→w7.heap[b]?=w3.heap[b]?
/-- The bytes of each file lie in blocks from B on. -/
def Far (B:Nat)(w:World)(t:FT):Prop:=∀ i,i<t.L.length→(t.nd i).kind≠2→(t.nd i).kind≠3→∃ v,Row w (t.bk i) 204 (t.hd i++[v])∧w.ownsRow B 5 1 v (t.nd i).data.length ((t.nd i).data.map B8)
theorem Far.below {B:Nat}{w w':World}{t:FT}(h:Far B w t)(hb:Below w.heap.size w w'):Far B w' t:=fun i hi k k'=>by
 obtain ⟨v,h1,h2⟩:=h i hi k k'
 exact ⟨v,h1.below hb h1.lt,own_below h2 hb⟩
theorem Bld.add {w w3 w7:World}{F K j b m:Nat}{t:FT}{nm:BL}{nd:ND}{x:EN}{v v':Value}{ds:List BL}(h:Bld w F K t)(hj:j<t.L.length)(hk:(t.nd j).kind=2)(hl:t.L.length≤64)(hnd:nd=newN ds j x)
 (hd:x.data.length≤65536) (hm:0≤x.mode∧x.mode≤65535) (hp:(pathJ ds).length≤1000000) (ht:x.to.length≤200)
 (hN:NewAt w w3 x (t.L.length:Nat) (pathJ ds) (t.bk j) b m) (hb:Below w.heap.size w w3) (hv:Row w F 120 [.pointer (some ⟨t.bk 0,0,none⟩),v]) (hvo:w.ownsRow 0 191 1 v t.L.length ((List.range t.L.length).map fun i=>ndV (t.pt i)))
 (hS:Stand w3 w7 (t.mp j) K F v) (hmj:NMap w7 (t.mp j) (t.nl j++[(nm,(ndT x.kind,b))])) (hkn:NMap w7 K (t.kn++[(pathJ ds,(ndT x.kind,b))]))
 (hF:Row w7 F 120 [.pointer (some ⟨t.bk 0,0,none⟩),v']) (hv':w7.ownsRow 0 191 1 v' (t.L.length+1) (((List.range t.L.length).map fun i=>ndV (t.pt i))++[ndV (ndT x.kind,b)])):Bld w7 F K (t.add j nm nd b m)∧∀ B,B≤w.heap.size→Far B w t→Far B w7 (t.add j nm nd b m):=by
 subst hnd
 have hf:=h.fs.fine
 have hmjw:=((h.fs.node j hj).dir hk).2
 obtain ⟨es1,cl1,ho1⟩:=hmjw.obj
 obtain ⟨es2,cl2,ho2⟩:=h.kn.obj
 have hFl:=hv.lt
 have hvb:∀ g,v.ownBlock=some g→g<w.heap.size∧∃ cs,w.heap[g]?=some (Obj.cells cs 191 (0,0)):=by
  intro g e
  rcases hvo.2 with ⟨rfl,_⟩|⟨g',cap,cur,rfl,_,hg,_⟩
  ·cases e
  ·cases e;exact ⟨(Array.getElem?_eq_some_iff.1 hg).1,cur,hg⟩
 -- cells of other types stand
 have cellsK:∀ (g:Nat) (cs:Array Value) (T:TypeId),w.heap[g]?=some (Obj.cells cs T (0,0))→T≠191→T≠120→w7.heap[g]?=w.heap[g]?:=by
  intro g cs T hg h1 h2
  have hlt:=(Array.getElem?_eq_some_iff.1 hg).1
  rw [hS.keep g (Nat.lt_of_lt_of_le hlt hb.size) (by rintro rfl;rw [ho1] at hg;cases hg) (by rintro rfl;rw [ho2] at hg;cases hg) (by rintro rfl;rw [hv.heap] at hg;cases hg;exact h2 rfl) (by
   intro e
   obtain ⟨_,cs',h3⟩:=hvb g e.symm
   rw [h3] at hg;cases hg;exact h1 rfl),hb.block g hlt]
 have mapsK:∀ (g:Nat) (es:Array MapEntry) (cl:Nat),w.heap[g]?=some (Obj.map es cl)→g≠t.mp j→g≠K→w7.heap[g]?=w.heap[g]?:=by
  intro g es cl hg h1 h2
  have hlt:=(Array.getElem?_eq_some_iff.1 hg).1
  rw [hS.keep g (Nat.lt_of_lt_of_le hlt hb.size) h1 h2 (by rintro rfl;rw [hv.heap] at hg;cases hg) (by
   intro e
   obtain ⟨_,cs',h3⟩:=hvb g e.symm
   rw [h3] at hg;cases hg),hb.block g hlt]
 have newK:∀ g,w.heap.size≤g→g<w3.heap.size→w7.heap[g]?=w3.heap[g]?:=by
  intro g h1 h2
  have l1:=hmjw.lt
  have l2:=h.kn.lt
  refine hS.keep g h2 (by omega) (by omega) (by omega) (fun e=>?_)
  have:=(hvb g e.symm).1
  omega
 have rowK:∀ g T cs,Row w g T cs→T≠191→T≠120→Row w7 g T cs:=fun g T cs hr h1 h2=>hr.same (cellsK g _ T hr.heap h1 h2)
 refine ⟨⟨⟨?_,?_,?_⟩,?_,?_,?_,?_,?_⟩,?_⟩
 ·exact Fine.add hf hj hk hl rfl rfl ⟨hd,rfl⟩ hm hp ht
 ·refine ⟨v',?_,?_⟩
  ·rw [add_bk h.bl hf.pos];exact hF
  ·rw [show (t.add j nm (newN ds j x) b m).L.length=t.L.length+1 from addN_len _ _ _ _,add_ndVs h.bl]
   exact hv'
 ·intro i hi
  rw [show (t.add j nm (newN ds j x) b m).L.length=t.L.length+1 from addN_len _ _ _ _] at hi
  by_cases hin:i<t.L.length
  ·obtain ⟨ns,e,h2,h3⟩:=add_nd (t:=t) (j:=j) (b:=b) (m:=m) (nm:=nm) (nd:=newN ds j x) hin
   have hna:=h.fs.node i hin
   refine ⟨fun k=>?_,fun k=>?_,fun k k'=>?_⟩
   ·rw [e] at k
    dsimp only at k
    rw [add_bk h.bl hin,add_hd h.bl hf hin,add_mp h.ml hin]
    refine ⟨rowK _ _ _ (hna.dir k).1 (by decide) (by decide),?_⟩
    by_cases hij:i=j
    ·subst hij
     rw [add_nl_at h.bl hf hin];exact hmj
    ·rw [add_nl_other h.bl hf hin hij]
     obtain ⟨es3,cl3,ho3⟩:=(hna.dir k).2.obj
     exact (hna.dir k).2.same (mapsK _ _ _ ho3 (h.mm i j hin hj k hk hij) (h.mK i hin k))
   ·rw [e] at k
    dsimp only at k
    rw [add_bk h.bl hin,add_hd h.bl hf hin]
    have e2:((t.add j nm (newN ds j x) b m).nd i).to=(t.nd i).to:=by rw [e]
    rw [e2]
    exact rowK _ _ _ (hna.link k) (by decide) (by decide)
   ·rw [e] at k k'
    dsimp only at k k'
    rw [add_bk h.bl hin,add_hd h.bl hf hin]
    have e2:((t.add j nm (newN ds j x) b m).nd i).data=(t.nd i).data:=by rw [e]
    rw [e2]
    obtain ⟨vv,h4,h5⟩:=hna.file k k'
    exact ⟨vv,rowK _ _ _ h4 (by decide) (by decide),own_same h5 (fun g cs hg=>cellsK g cs _ hg (by decide) (by decide))⟩
  ·obtain rfl:i=t.L.length:=by omega
   have hb2:=hN.lo
   have hhd:(t.add j nm (newN ds j x) b m).hd t.L.length=headC x (t.L.length:Nat) (pathJ ds) (t.bk j):=by
    unfold FT.hd headC
    rw [add_nd_new]
    have:(t.add j nm (newN ds j x) b m).bk (newN ds j x).up=t.bk j:=add_bk h.bl hj
    rw [this]
    rfl
   have hrow:∀ T cs,Row w3 b T cs→Row w7 b T cs:=fun T cs hr=>hr.same (newK b hN.lo hN.hi)
   refine ⟨fun k=>?_,fun k=>?_,fun k k'=>?_⟩
   ·rw [add_nd_new] at k
    have k2:x.kind=2:=k
    obtain ⟨h4,h5,h6⟩:=hN.dir k2
    rw [add_bk_new h.bl,add_mp_new h.ml,hhd]
    refine ⟨hrow _ _ h4,?_⟩
    have:(t.add j nm (newN ds j x) b m).nl t.L.length=[]:=by unfold FT.nl;rw [add_nd_new];rfl
    rw [this]
    exact h5.same (newK m h6 h5.lt)
   ·rw [add_nd_new] at k
    have k3:x.kind=3:=k
    rw [add_bk_new h.bl,hhd,add_nd_new]
    exact hrow _ _ (hN.link k3)
   ·rw [add_nd_new] at k k'
    obtain ⟨vv,h4,h5⟩:=hN.file k k'
    rw [add_bk_new h.bl,hhd,add_nd_new]
    refine ⟨vv,hrow _ _ h4,?_⟩
    have h6:w7.ownsRow w.heap.size 5 1 vv x.data.length (x.data.map B8):=by
     refine ⟨h5.1,?_⟩
     rcases h5.2 with hn|⟨g,cap,cur,hv9,hbg,hg,r⟩
     ·exact .inl hn
     ·exact .inr ⟨g,cap,cur,hv9,hbg,by rw [newK g hbg (Array.getElem?_eq_some_iff.1 hg).1];exact hg,r⟩
    exact own_from h6 (Nat.zero_le _)
 ·rw [add_kn h.bl];exact hkn
 ·show (t.bs++[b]).length=(addN t.L j nm (newN ds j x)).length
  rw [addN_len,List.length_append,h.bl];rfl
 ·show (t.ms++[m]).length=(addN t.L j nm (newN ds j x)).length
  rw [addN_len,List.length_append,h.ml];rfl
 ·intro i hi k
  rw [show (t.add j nm (newN ds j x) b m).L.length=t.L.length+1 from addN_len _ _ _ _] at hi
  by_cases hin:i<t.L.length
  ·obtain ⟨ns,e,_⟩:=add_nd (t:=t) (j:=j) (b:=b) (m:=m) (nm:=nm) (nd:=newN ds j x) hin
   rw [e] at k
   rw [add_mp h.ml hin]
   exact h.mK i hin k
  ·obtain rfl:i=t.L.length:=by omega
   rw [add_nd_new] at k
   rw [add_mp_new h.ml]
   have:=(hN.dir k).2.2
   have:=h.kn.lt
   omega
 ·intro i i' hi hi' k k' hne
  rw [show (t.add j nm (newN ds j x) b m).L.length=t.L.length+1 from addN_len _ _ _ _] at hi hi'
  have old:∀ i,i<t.L.length→((t.add j nm (newN ds j x) b m).nd i).kind=2→(t.nd i).kind=2:=fun i hi k=>by
   obtain ⟨ns,e,_⟩:=add_nd (t:=t) (j:=j) (b:=b) (m:=m) (nm:=nm) (nd:=newN ds j x) hi
   rw [e] at k;exact k
  have lt:∀ i (hi:i<t.L.length),(t.nd i).kind=2→t.mp i<w.heap.size:=fun i hi k=>((h.fs.node i hi).dir k).2.lt
  by_cases hin:i<t.L.length
  ·by_cases hin':i'<t.L.length
   ·rw [add_mp h.ml hin,add_mp h.ml hin']
    exact h.mm i i' hin hin' (old i hin k) (old i' hin' k') hne
   ·obtain rfl:i'=t.L.length:=by omega
    rw [add_nd_new] at k'
    rw [add_mp h.ml hin,add_mp_new h.ml]
    have h1:=(hN.dir k').2.2
    have h2:=lt i hin (old i hin k)
    omega
  ·obtain rfl:i=t.L.length:=by omega
   have hin':i'<t.L.length:=by omega
   rw [add_nd_new] at k
   rw [add_mp h.ml hin',add_mp_new h.ml]
   have h1:=(hN.dir k).2.2
   have h2:=lt i' hin' (old i' hin' k')
   omega
 ·intro B hBw hfar i hi k k'
  rw [show (t.add j nm (newN ds j x) b m).L.length=t.L.length+1 from addN_len _ _ _ _] at hi
  by_cases hin:i<t.L.length
  ·obtain ⟨ns,e,h2,h3⟩:=add_nd (t:=t) (j:=j) (b:=b) (m:=m) (nm:=nm) (nd:=newN ds j x) hin
   rw [e] at k k'
   dsimp only at k k'
   rw [add_bk h.bl hin,add_hd h.bl hf hin]
   have e2:((t.add j nm (newN ds j x) b m).nd i).data=(t.nd i).data:=by rw [e]
   rw [e2]
   obtain ⟨vv,h4,h5⟩:=hfar i hin k k'
   exact ⟨vv,rowK _ _ _ h4 (by decide) (by decide),own_same h5 (fun g cs hg=>cellsK g cs _ hg (by decide) (by decide))⟩
  ·obtain rfl:i=t.L.length:=by omega
   have hhd:(t.add j nm (newN ds j x) b m).hd t.L.length=headC x (t.L.length:Nat) (pathJ ds) (t.bk j):=by
    unfold FT.hd headC
    rw [add_nd_new]
    have:(t.add j nm (newN ds j x) b m).bk (newN ds j x).up=t.bk j:=add_bk h.bl hj
    rw [this]
    rfl
   rw [add_nd_new] at k k'
   obtain ⟨vv,h4,h5⟩:=hN.file k k'
   rw [add_bk_new h.bl,hhd,add_nd_new]
   refine ⟨vv,h4.same (newK b hN.lo hN.hi),?_⟩
   have h6:w7.ownsRow w.heap.size 5 1 vv x.data.length (x.data.map B8):=by
    refine ⟨h5.1,?_⟩
    rcases h5.2 with hn|⟨g,cap,cur,hv9,hbg,hg,r⟩
    ·exact .inl hn
    ·exact .inr ⟨g,cap,cur,hv9,hbg,by rw [newK g hbg (Array.getElem?_eq_some_iff.1 hg).1];exact hg,r⟩
   exact own_from h6 hBw
def addE (L:List ND)(x:EN):Int × List ND:=
 match entP x with
 | none=>(1,L)
 | some ds=>if 65536<x.data.length then (12,L) else
  match lookK L (pathJ ds) with
  | some _=>(7,L)
  | none=>
   match lookK L (pathJ ds.dropLast) with
   | none=>(3,L)
   | some j=>if (L.getD j default).kind=2 then (0,addN L j (ds.getLastD []) (newN ds j x)) else (8,L)
structure Low (B:Nat)(w:World)(F K:Nat)(t:FT):Prop where
 loF:B≤F
 loK:B≤K
 lom:∀ i,i<t.L.length→(t.nd i).kind=2→B≤t.mp i
 lov:∀ v c0,Row w F 120 [c0,v]→∀ g,v.ownBlock=some g→B≤g
 lod:Far B w t
theorem Low.below {B:Nat}{w w':World}{F K:Nat}{t:FT}(h:Low B w F K t)(hF:F<w.heap.size)(hb:Below w.heap.size w w'):Low B w' F K t:=
 ⟨h.loF,h.loK,h.lom,fun v c0 hr g hg=>h.lov v c0 (hr.same (hb.block F hF).symm) g hg,h.lod.below hb⟩
theorem Bld.below {w w':World}{F K:Nat}{t:FT}(h:Bld w F K t)(hb:Below w.heap.size w w'):Bld w' F K t:=⟨h.fs.below hb,h.kn.below hb,h.bl,h.ml,h.mK,h.mm⟩
theorem Bld.F {w:World}{F K:Nat}{t:FT}(h:Bld w F K t):F<w.heap.size:=by
 obtain ⟨v,h1,_⟩:=h.fs.top
 exact h1.lt
def AddPost (B:Nat)(w:World)(F K:Nat)(t:FT)(x:EN)(e:Ending)(w':World):Prop:=∃ t',e=.returned (.int .i64 (addE t.L x).1)∧t'.L=(addE t.L x).2∧Bld w' F K t'∧Low B w' F K t'∧Below B w w'
theorem addPost_no {B:Nat}{w w':World}{F K:Nat}{t:FT}{x:EN}{er:Int}(h:addE t.L x=(er,t.L))(hb:Bld w F K t)(hl:Low B w F K t)(hw:Below w.heap.size w w'):AddPost B w F K t x (.returned (.int .i64 er)) w':=by
 refine ⟨t,by rw [h],by rw [h],hb.below hw,hl.below hb.F hw,hw.mono ?_⟩
 have h1:=hl.loF
 have h2:=hb.F
 omega
section
variable {L:List ND}{x:EN}{ds:List BL}
theorem addE_1 (h:entP x=none):addE L x=(1,L):=by unfold addE;rw [h]
theorem addE_12 (h:entP x=some ds)(h2:65536<x.data.length):addE L x=(12,L):=by unfold addE;rw [h];simp [h2]
theorem addE_7 (h:entP x=some ds)(h2:¬ 65536<x.data.length){j:Nat}(h3:lookK L (pathJ ds)=some j):addE L x=(7,L):=by unfold addE;rw [h];simp only [if_neg h2,h3]
theorem addE_3 (h:entP x=some ds)(h2:¬ 65536<x.data.length)(h3:lookK L (pathJ ds)=none)(h4:lookK L (pathJ ds.dropLast)=none):addE L x=(3,L):=by unfold addE;rw [h];simp only [if_neg h2,h3,h4]
theorem addE_8 (h:entP x=some ds)(h2:¬ 65536<x.data.length)(h3:lookK L (pathJ ds)=none){j:Nat}(h4:lookK L (pathJ ds.dropLast)=some j)(h5:¬ (L.getD j default).kind=2):addE L x=(8,L):=by unfold addE;rw [h];simp only [if_neg h2,h3,h4,if_neg h5]
theorem addE_0 (h:entP x=some ds)(h2:¬ 65536<x.data.length)(h3:lookK L (pathJ ds)=none){j:Nat}(h4:lookK L (pathJ ds.dropLast)=some j)(h5:(L.getD j default).kind=2):addE L x=(0,addN L j (ds.getLastD []) (newN ds j x)):=by unfold addE;rw [h];simp only [if_neg h2,h3,h4,if_pos h5]
end
theorem entP_is {x:EN}{ds:List BL}(h:entP x=some ds):ds=partsF x.path∧entB x:=by
 unfold entP at h
 split at h
 ·rename_i h2;cases h;exact ⟨rfl,h2⟩
 ·cases h
theorem lookK_in {L:List ND}{p:BL}{j:Nat}(h:lookK L p=some j):j<L.length:=by
 have:=lookI_mem h
 unfold pathsL at this
 obtain ⟨i,hi,e⟩:=List.mem_map.1 this
 cases e
 exact List.mem_range.1 hi
theorem rightK_to {x:EN}(h:rightK x=true):x.to.length≤200:=by
 unfold rightK at h
 split at h
 ·have:x.to=[]:=by simpa using h
  rw [this];simp
 ·split at h
  ·rw [Bool.and_eq_true] at h
   have:x.to=[]:=by simpa using h.1
   rw [this];simp
  ·split at h
   ·rw [Bool.and_eq_true] at h
    have h3:chkE x.to=0:=by simpa using h.2
    unfold chkE at h3
    split at h3
    ·cases h3
    ·split at h3
     ·cases h3
     ·split at h3
      ·cases h3
      ·omega
   ·cases h
theorem Row.two {w:World}{g:Nat}{E:TypeId}{a b:Value}(h:Row w g E [a,b]):w.cell? ⟨g,0,none⟩=some a∧w.cell? ⟨g,1,none⟩=some b:=⟨h.cell 0 (by simp),h.cell 1 (by simp)⟩
theorem infoNode:(Tryz.prog.info? 191).map (fun i=>(i.zero,i.size,i.bytes))=some (some .nilIface,1,16):=by kernel_rfl
theorem own_cells {w:World}{base e size n:Nat}{v:Value}{xs:List Value}(h:w.ownsRow base e size v n xs)(j:Nat)(o:Obj)(hj:v.ownBlock=some j)(ho:w.heap[j]?=some o):∃ cs,o=.cells cs e (0,0):=by
 rcases h.2 with ⟨rfl,_⟩|⟨g,cap,cur,rfl,_,hg,_⟩
 ·cases hj
 ·cases hj;rw [hg] at ho;cases ho;exact ⟨cur,rfl⟩
theorem own_turn {w w':World}{base e size n:Nat}{v:Value}{xs:List Value}{row:Option Nat}(h:w.ownsRow base e size v n xs)(hg:w.grownBy w' row)(hr:∀ r,row=some r→∃ es c,w.heap[r]?=some (.map es c)):w'.ownsRow base e size v n xs:=by
 refine h.kept hg ?_
 cases hv:v.ownBlock with
 | none=>exact .inl rfl
 | some j=>
  right
  intro e
  obtain ⟨es,c,ho⟩:=hr j e.symm
  obtain ⟨cs,h2⟩:=own_cells h j _ hv ho
  cases h2
theorem NMap.ne_row {w:World}{m b:Nat}{l:NL}{T:TypeId}{cs:List Value}(h:NMap w m l)(hr:Row w b T cs):some b≠some m:=by
 intro e
 cases e
 obtain ⟨es,c,hm⟩:=h.obj
 rw [hr.heap] at hm
 cases hm
theorem NMap.nocells {w:World}{m:Nat}{l:NL}(h:NMap w m l):∀ r,some m=some r→∃ es c,w.heap[r]?=some (.map es c):=by
 rintro r e
 cases e
 exact h.obj
theorem NMap.ne_own {w:World}{m base e size n:Nat}{l:NL}{v:Value}{xs:List Value}(h:NMap w m l)(ho:w.ownsRow base e size v n xs):some m≠v.ownBlock:=by
 intro e
 obtain ⟨es,c,hm⟩:=h.obj
 obtain ⟨cs,h2⟩:=own_cells ho m _ e.symm hm
 cases h2
theorem Bld.fin {B:Nat}{w w4 w5 w6 w7:World}{F K j b m:Nat}{t:FT}{nm:BL}{x:EN}{v v':Value}{ds:List BL}{o:Obj}(h:Bld w F K t)(hlo:Low B w F K t)(hj:j<t.L.length)(hk:(t.nd j).kind=2)(hl:t.L.length≤64)
 (hd:x.data.length≤65536) (hm:0≤x.mode∧x.mode≤65535) (hp:(pathJ ds).length≤1000000) (ht:x.to.length≤200)
 (hN:NewAt w w4 x (t.L.length:Nat) (pathJ ds) (t.bk j) b m) (hb:Below w.heap.size w w4) (hv:Row w F 120 [.pointer (some ⟨t.bk 0,0,none⟩),v]) (hvo:w.ownsRow 0 191 1 v t.L.length ((List.range t.L.length).map fun i=>ndV (t.pt i)))
 (hg5:w4.grownBy w5 (some (t.mp j))) (hm5:NMap w5 (t.mp j) (t.nl j++[(nm,(ndT x.kind,b))])) (hg6:w5.grownBy w6 (some K)) (hk6:NMap w6 K (t.kn++[(pathJ ds,(ndT x.kind,b))]))
 (hg7:(w6.alloc o).grownBy w7 v.ownBlock) (hown:w7.ownsRow 0 191 1 v' (t.L.length+1) (((List.range t.L.length).map fun i=>ndV (t.pt i))++[ndV (ndT x.kind,b)])) (hat:v'.ownBlock=v.ownBlock∨v'.ownBlock=some (w6.alloc o).heap.size):
 Bld (w7.setCell ⟨F,1,none⟩ v') F K (t.add j nm (newN ds j x) b m)∧Low B (w7.setCell ⟨F,1,none⟩ v') F K (t.add j nm (newN ds j x) b m)∧Below B w (w7.setCell ⟨F,1,none⟩ v'):=by
 have hmj:=((h.fs.node j hj).dir hk).2
 have hmj4:=hmj.below hb
 have hkn4:=h.kn.below hb
 have hF4:=hv.below hb hv.lt
 have hvo4:=own_below hvo hb
 have hF5:=hF4.grown hg5 (hmj4.ne_row hF4)
 have hvo5:=own_turn hvo4 hg5 hmj4.nocells
 have hKm:=h.mK j hj hk
 have hkn5:=hkn4.same (hg5.block K hkn4.lt (by simpa using Ne.symm hKm))
 have hF6:=hF5.grown hg6 (hkn5.ne_row hF5)
 have hvo6:=own_turn hvo5 hg6 hkn5.nocells
 have hm6:=hm5.same (hg6.block (t.mp j) hm5.lt (by simpa using hKm))
 have hFne:some F≠v.ownBlock:=own_row_ne hvo6 hF6 (by decide)
 have hF7:=(hF6.alloc o).grown hg7 hFne
 have s45:=hg5.size
 have s56:=hg6.size
 have s67:=hg7.size
 rw [World.size_alloc] at s67
 have keep:∀ g,g<w6.heap.size→g≠F→some g≠v.ownBlock→(w7.setCell ⟨F,1,none⟩ v').heap[g]?=w6.heap[g]?:=by
  intro g h1 h2 h3
  rw [heap_setCell_other _ _ _ _ (by exact h2),hg7.block g (by rw [World.size_alloc];omega) h3,heap_alloc_old _ _ h1]
 have hF8:Row (w7.setCell ⟨F,1,none⟩ v') F 120 [.pointer (some ⟨t.bk 0,0,none⟩),v']:=hF7.set 1 v'
 have hvb:∀ g,v.ownBlock=some g→g<w.heap.size:=fun g e=>by
  rcases own_block hvo with h1|⟨g',h1,_,h3⟩
  ·rw [h1] at e;cases e
  ·rw [h1] at e;cases e;exact h3
 have hS:Stand w4 (w7.setCell ⟨F,1,none⟩ v') (t.mp j) K F v:=⟨fun g h1 h2 h3 h4 h5=>by
  rw [keep g (by omega) h4 h5,hg6.block g (by omega) (by simpa using h3),hg5.block g h1 (by simpa using h2)]⟩
 have hm8:NMap (w7.setCell ⟨F,1,none⟩ v') (t.mp j) (t.nl j++[(nm,(ndT x.kind,b))]):=hm6.same (keep _ hm6.lt (fun e=>hm6.ne_row hF6 (by rw [e])) (hm6.ne_own hvo6))
 have hk8:NMap (w7.setCell ⟨F,1,none⟩ v') K (t.kn++[(pathJ ds,(ndT x.kind,b))]):=hk6.same (keep _ hk6.lt (fun e=>hk6.ne_row hF6 (by rw [e])) (hk6.ne_own hvo6))
 have hv8:(w7.setCell ⟨F,1,none⟩ v').ownsRow 0 191 1 v' (t.L.length+1) (((List.range t.L.length).map fun i=>ndV (t.pt i))++[ndV (ndT x.kind,b)]):=own_setOther hown (own_row_ne hown hF7 (by decide)) v'
 have hBF:=hlo.loF
 have hFlt:=hv.lt
 have hadd:=Bld.add h hj hk hl rfl hd hm hp ht hN hb hv hvo hS hm8 hk8 hF8 hv8
 refine ⟨hadd.1,⟨hlo.loF,hlo.loK,?_,?_,hadd.2 B (by omega) hlo.lod⟩,?_⟩
 ·intro i hi k
  rw [show (t.add j nm (newN ds j x) b m).L.length=t.L.length+1 from addN_len _ _ _ _] at hi
  by_cases hin:i<t.L.length
  ·obtain ⟨ns,e,_⟩:=add_nd (t:=t) (j:=j) (b:=b) (m:=m) (nm:=nm) (nd:=newN ds j x) hin
   rw [e] at k
   rw [add_mp h.ml hin]
   exact hlo.lom i hin k
  ·obtain rfl:i=t.L.length:=by omega
   rw [add_nd_new] at k
   rw [add_mp_new h.ml]
   have:=(hN.dir k).2.2
   omega
 ·intro v9 c0 hr9 g hg9
  have e1:=hr9.cell 1 (by simp)
  have e2:=hF8.cell 1 (by simp)
  rw [e2] at e1
  simp only [List.getElem_cons_zero,List.getElem_cons_succ,Option.some.injEq] at e1
  subst e1
  rcases hat with h1|h1
  ·rw [h1] at hg9;exact hlo.lov v _ hv g hg9
  ·rw [h1] at hg9
   cases hg9
   rw [World.size_alloc]
   have:=hb.size
   omega
 ·have hBs:B≤w.heap.size:=by omega
  have h1:Below B w w4:=hb.mono hBs
  have hs4:=hb.size
  have h2:=h1.grown hg5 (by omega) (fun k e=>by cases e;exact hlo.lom j hj hk)
  have h3:=h2.grown hg6 (by omega) (fun k e=>by cases e;exact hlo.loK)
  have h4:=(h3.alloc (by omega) o).grown hg7 (by rw [World.size_alloc];omega) (fun k e=>hlo.lov v _ hv k e)
  exact bset h4 hlo.loF _
theorem newNode_any (x:EN)(i:Int)(path:BL)(pb:Nat)(w:World)(hx:EnOk w x):
 Calls Tryz.prog 113 #[.agg x.cs.toArray,.agg #[.int .i64 i,.string (ba path),.pointer (some ⟨pb,0,none⟩),.int .u8 0,.int .u16 0,.int .u32 0,.int .u32 0,.int .i64 0]] w (NewPost w x i path pb):=by
 by_cases h2:x.kind=2
 ·exact newNode_dir x i path pb w hx h2
 ·by_cases h3:x.kind=3
  ·exact newNode_link x i path pb w hx h3
  ·exact newNode_file x i path pb w hx h2 h3
/-- x[:n-1]. -/
theorem cut_slice (b o c n:Nat)(hn:n≤c)(hc:0<c)(w:World):(Instr.slice 142 (.slice (some ⟨b,o,none⟩) (n+1) c) none (some (.int .i64 (n:Int))) none).run Tryz.prog w=.ok (.slice (some ⟨b,o,none⟩) n c) w:=by
 have hz:∀ w,(sizeOf (Tryz.prog.elem 142)).run Tryz.prog w=.ok 1 w:=fun w=>by kernel_rfl
 rw [run_slice_h w 142 _ _ _ (by kernel_rfl) .i64 n (by omega) (by omega),hz]
 simp only [Result.andThen,sliced]
 rw [if_neg (by omega)]
 simp [Addr.add]
set_option maxRecDepth 100000 in
set_option maxHeartbeats 8000000 in
theorem add_any (B F K:Nat)(t:FT)(x:EN)(w:World)(h:Bld w F K t)(hlo:Low B w F K t)(hx:EnOk w x)(hl:t.L.length≤64):
 Calls Tryz.prog 67 #[.pointer (some ⟨F,0,none⟩),.map (some K),.agg x.cs.toArray] w (AddPost B w F K t x):=by
 have HBLD:=hid h
 have HLOW:=hid hlo
 have HB0:=hid (show Below w.heap.size w (w.alloc (.cells x.cs.toArray 131)) from bal _)
 have HR0:=hid (Row.new w 131 x.cs)
 have HX0:=hid (hx.below HB0.out)
 have HEP:=hid (entryParts_any x _ HX0.out)
 clear h hlo hx
 unfold EN.cs at HB0 HR0 HX0 HEP ⊢
 go_enter Tryz.func67,Tryz.ntmps67
 go_wp2_with fail
 refine (HEP.out).mono ?_
 rintro e' w1 ⟨hb,hm⟩
 clear HEP
 have HB1:=hid (bthen HB0.out hb)
 have HR1:=hid (HR0.out.below hb HR0.out.lt)
 have HX1:=hid (HX0.out.below hb)
 clear hb
 cases hE:entP x with
 | none=>
  rw [hE] at hm
  dsimp only at hm
  subst hm
  have HE:=hid (addE_1 (L:=t.L) hE)
  clear hE
  go_wp2_with fail
  go_ret
  exact addPost_no HE.out HBLD.out HLOW.out HB1.out
 | some ds=>
  rw [hE] at hm
  dsimp only at hm
  obtain ⟨v,rfl,ho⟩:=hm
  obtain ⟨hds,hen⟩:=entP_is hE
  have HEN:=hid hE
  have hdl:ds.length≤201:=by rw [hds];exact parts_count _
  have HSM:=hid (show ∀ p∈ds,p.length≤1000 by rw [hds];exact parts_small _)
  have hne:ds≠[]:=by rw [hds];exact hen.2.2.2.2.2.1
  have HTO:=hid (rightK_to hen.1)
  obtain ⟨n,hn⟩:∃ n,ds.length=n+1:=⟨ds.length-1,by have:=List.length_pos_iff.2 hne;omega⟩
  obtain ⟨av,cv,rfl,hcel,_,hcv,_⟩:=own_cel ho
  obtain ⟨b,o,rfl,hcell⟩:=hcel.some_of (by simp [strs];omega)
  have hlast:ds.getLastD []=ds[n]'(by omega):=by
   have h9:ds.getLast?=some (ds[n]'(by omega)):=by
    rw [List.getLast?_eq_getElem?,show ds.length-1=n by omega]
    exact List.getElem?_eq_getElem (by omega)
   rw [List.getLastD_eq_getLast?,h9]
   rfl
  have hnm1:w1.cell? ⟨b,o+n,none⟩=some (.string (ba (ds.getLastD []))):=by
   rw [hlast]
   have:=hcell n (by simp [strs];omega)
   rw [this];simp [strs]
  obtain ⟨nm,hnmv⟩:∃ nm,nm=ds.getLastD []:=⟨_,rfl⟩
  rw [← hnmv] at hnm1 hlast
  have HNMV:=hid hnmv
  clear hnmv
  have HNM1:=hid hnm1
  have HPO:=hid (fun (wr:World) (hb:Below w1.heap.size w1 wr)=>pathOf_any (some ⟨b,o,none⟩) ds cv wr (hcel.below' hb) hcv (by omega) HSM.out)
  rw [hn] at HPO
  have hdn:ds.dropLast.length=n:=by rw [List.length_dropLast,hn];rfl
  have hdc:Cel w1 (some ⟨b,o,none⟩) n (strs ds.dropLast):=by
   have h1:=hcel.prefix (n:=n) (by omega)
   have h2:(strs ds).take n=strs ds.dropLast:=by
    unfold strs
    rw [← List.map_take,List.dropLast_eq_take,hn]
    rfl
   rwa [h2] at h1
  have HPD:=hid (fun (wr:World) (hb:Below w1.heap.size w1 wr)=>pathOf_any (some ⟨b,o,none⟩) ds.dropLast cv wr (by rw [hdn];exact hdc.below' hb) (by omega) (by omega) (fun p hp=>HSM.out p (List.dropLast_subset _ hp)))
  rw [hdn] at HPD
  have hsl:=cut_slice b o cv n (by omega) (by omega)
  have HND:=hid hdn
  have HLN:=hid (show nm.length≤1000 by rw [hlast];exact HSM.out _ (List.getElem_mem _))
  have hblt:=World.block_lt_of_cell? _ _ hnm1
  dsimp only at hblt
  rw [hn]
  have HDL:=hid hdl
  have HN1:=hid hn
  have HMODE:=hid HX1.out.mode
  have hnb:n≤200:=by omega
  clear ho hds hen hcel hcv hcell hne hdc hlast hnm1 hn hdl hE hdn
  obtain ⟨c0,c1,c2,c3,c4,c5,c6⟩:=HR1.out.seven
  have hlr:=HR1.out.lt
  by_cases hbig:65536<x.data.length
  ·have d1:decide ((65536:Int)<(x.data.length:Int))=true:=by simp;omega
   have HE:=hid (addE_12 (L:=t.L) HEN.out hbig)
   clear hbig
   go_wp2_with fail
   go_ret
   exact addPost_no HE.out HBLD.out HLOW.out HB1.out
  ·have d1:decide ((65536:Int)<(x.data.length:Int))=false:=by simp;omega
   have HBIG:=hid hbig
   clear hbig
   go_wp2_with fail
   refine (HPO.out _ (Below.refl _ _)).mono ?_
   rintro e' w2 ⟨rfl,hb⟩
   have HB12:=hid hb
   have HB2:=hid (bthen HB1.out hb)
   have HR2:=hid (HR1.out.below hb HR1.out.lt)
   have HX2:=hid (HX1.out.below hb)
   have HPJ:=hid (show (pathJ ds).length≤1000000 by
    unfold pathJ
    have h1:=join_len ds HSM.out
    have h2:ds.length*1001≤201*1001:=Nat.mul_le_mul_right _ HDL.out
    simp only [List.length_cons]
    omega)
   have HPJ2:=hid (show (pathJ ds.dropLast).length≤1000000 by
    unfold pathJ
    have h1:=join_len ds.dropLast (fun p hp=>HSM.out p (List.dropLast_subset _ hp))
    have h2:ds.dropLast.length*1001≤201*1001:=Nat.mul_le_mul_right _ (by rw [HND.out];have:=HDL.out;have:=HN1.out;omega)
    simp only [List.length_cons]
    omega)
   have hlk:=(HBLD.out.kn.below HB2.out).look (pathJ ds) (by have:=HPJ.out;unfold maxLen;omega)
   rw [show lookN t.kn (pathJ ds)=(lookK t.L (pathJ ds)).map t.pt from lookI_map t.pt (pathsL t.L) (pathJ ds)] at hlk
   have hnm2:=keepC hb HNM1.out
   have hbl2:=World.block_lt_of_cell? _ _ hnm2
   dsimp only at hbl2
   clear hb c0 c1 c2 c3 c4 c5 c6 hlr
   cases hl1:lookK t.L (pathJ ds) with
   | some j0=>
    rw [hl1] at hlk
    simp only [Option.map_some,Option.isSome_some,lkNV] at hlk
    have HE:=hid (addE_7 HEN.out HBIG.out hl1)
    clear hl1
    go_wp2_with fail
    go_ret
    exact addPost_no HE.out HBLD.out HLOW.out HB2.out
   | none=>
    rw [hl1] at hlk
    simp only [Option.map_none,Option.isSome_none,lkNV] at hlk
    have HL1:=hid hl1
    clear hl1
    go_wp2_with fail
    refine (HPD.out _ HB12.out).mono ?_
    rintro e' w3 ⟨rfl,hb⟩
    have HB3:=hid (bthen HB2.out hb)
    have HR3:=hid (HR2.out.below hb HR2.out.lt)
    have HX3:=hid (HX2.out.below hb)
    clear hlk hnm2 hbl2 hblt
    have hlk:=(HBLD.out.kn.below HB3.out).look (pathJ ds.dropLast) (by have:=HPJ2.out;unfold maxLen;omega)
    rw [show lookN t.kn (pathJ ds.dropLast)=(lookK t.L (pathJ ds.dropLast)).map t.pt from lookI_map t.pt (pathsL t.L) (pathJ ds.dropLast)] at hlk
    clear hb
    cases hl2:lookK t.L (pathJ ds.dropLast) with
    | none=>
     rw [hl2] at hlk
     simp only [Option.map_none,Option.isSome_none,lkNV] at hlk
     have HE:=hid (addE_3 HEN.out HBIG.out HL1.out hl2)
     clear hl2
     go_wp2_with fail
     go_ret
     exact addPost_no HE.out HBLD.out HLOW.out HB3.out
    | some j=>
     rw [hl2] at hlk
     simp only [Option.map_some,Option.isSome_some,lkNV] at hlk
     have HJ:=hid (lookK_in hl2)
     have hkv:=ndV_kind (t.nd j).kind (t.bk j)
     rw [show ndV (ndT (t.nd j).kind,t.bk j)=ndV (t.pt j) from rfl] at hkv
     rw [hkv] at hlk
     clear hkv
     by_cases hk:(t.nd j).kind=2
     ·rw [if_pos hk] at hlk
      have HE:=hid (addE_0 HEN.out HBIG.out HL1.out hl2 hk)
      have HK:=hid hk
      have hta:=ta_dd (t.bk j)
      clear hl2 hk
      have HBLD3:=hid (HBLD.out.below HB3.out)
      have HLOW3:=hid (HLOW.out.below HBLD.out.F HB3.out)
      obtain ⟨v,hrF,hvo⟩:=HBLD3.out.fs.top
      obtain ⟨va,vc,rfl,_⟩:=own_cel hvo
      have HRF:=hid hrF
      have HVO:=hid hvo
      have f1:=hrF.cell 1 (by simp)
      simp only [List.getElem_cons_zero,List.getElem_cons_succ] at f1
      have hFl:=hrF.lt
      obtain ⟨c0,c1,c2,c3,c4,c5,c6⟩:=HR3.out.seven
      have hlr:=HR3.out.lt
      have HNN:=hid (newNode_any x (t.L.length:Nat) (pathJ ds) (t.bk j) w3.drew ⟨⟨HX3.out.byt.hlen,HX3.out.byt.cell⟩,HX3.out.nil,HX3.out.path,HX3.out.to,HX3.out.data,HX3.out.mode⟩)
      unfold EN.cs at HNN
      clear hrF hvo
      go_wp2_with fail
      go_still_tail 9,(by kernel_rfl)
      go_wp2_with fail
      refine (HNN.out).mono ?_
      rintro e' w4 ⟨b4,m4,rfl,hN,hb⟩
      have HN:=hid (show NewAt w3 w4 x (t.L.length:Nat) (pathJ ds) (t.bk j) b4 m4 from ⟨hN.lo,hN.hi,hN.dir,hN.link,hN.file⟩)
      have HB34:=hid (bdl hb)
      clear hN hb c0 c1 c2 c3 c4 c5 c6 hlr f1 hFl hlk
      obtain ⟨hrow,hmap⟩:=(HBLD3.out.fs.node j HJ.out).dir HK.out
      have hmap4:=hmap.below HB34.out
      obtain ⟨w5,hrun5,hm5,hg5⟩:=hmap4.put nm (by have:=HLN.out;unfold maxLen;omega) (by
       have h1:=HBLD3.out.fs.fine.many j HJ.out
       have h2:(t.nl j).length=(t.L.getD j default).names.length:=by unfold FT.nl;rw [List.length_map];rfl
       rw [h2];unfold maxLen;omega) (ndT x.kind,b4)
      have hkn5:=(HBLD3.out.kn.below HB34.out).same (hg5.block K ((HBLD3.out.kn.below HB34.out).lt) (by simpa using Ne.symm (HBLD3.out.mK j HJ.out HK.out)))
      obtain ⟨w6,hrun6,hm6,hg6⟩:=hkn5.put (pathJ ds) (by have:=HPJ.out;unfold maxLen;omega) (by
       have h2:t.kn.length=t.L.length:=by unfold FT.kn pathsL;simp
       rw [h2];unfold maxLen;omega) (ndT x.kind,b4)
      have hrF4:=HRF.out.below HB34.out HRF.out.lt
      have hrF5:=hrF4.grown hg5 (hmap4.ne_row hrF4)
      have hrF6:=hrF5.grown hg6 (hkn5.ne_row hrF5)
      have hvo4:=own_below HVO.out HB34.out
      have hvo5:=own_turn hvo4 hg5 hmap4.nocells
      have hvo6:=own_turn hvo5 hg6 hkn5.nocells
      have hFne:=own_row_ne hvo6 hrF6 (by decide)
      have k8:=(hrow.below HB34.out hrow.lt).cell 8 (by simp [FT.hd])
      rw [show (t.hd j++[Value.map (some (t.mp j))])[8]'(by simp [FT.hd])=.map (some (t.mp j)) from rfl] at k8
      have hkl:=(hrow.below HB34.out hrow.lt).lt
      have f1:=hrF6.cell 1 (by simp)
      simp only [List.getElem_cons_zero,List.getElem_cons_succ] at f1
      have hFl:=hrF6.lt
      have HG5:=hid hg5
      have HG6:=hid hg6
      have HM5:=hid hm5
      have HM6:=hid hm6
      have HVO6:=hid (hvo6.alloc (.cells [ndV (ndT x.kind,b4)].toArray 191))
      have HRF6:=hid (hrF6.alloc (.cells [ndV (ndT x.kind,b4)].toArray 191))
      have HFNE:=hid hFne
      have HNW:=hid (news_one w6 (ndV (ndT x.kind,b4)) 191)
      have HON:=hid (show ∀ u∈[ndV (ndT x.kind,b4)],u.oneCell'=true by intro u hu;rw [List.mem_singleton.1 hu];rfl)
      have HA1:=hid (show t.L.length+1≤maxLen by unfold maxLen;omega)
      have HA2:=hid (show (t.L.length+1)*16≤140737488355328 by omega)
      obtain ⟨i0,hi0,hz0,hz1,hz2⟩:=info_parts infoNode
      clear hrow hmap hmap4 hm5 hkn5 hm6 hrF4 hrF5 hvo4 hvo5 hvo6 hFne hg5 hg6
      have hp:ndV (ndT x.kind,b4)=.iface (ndT x.kind) (.pointer (some ⟨b4,0,none⟩)):=rfl
      rw [hp] at hrun5 hrun6 HVO6 HRF6 HNW HON ⊢
      clear hp
      go_wp2_with (at_builtin;go_must (refine wpList_append_own_at _ rfl _ _ 118 rfl 0 191 i0 .nilIface 1 16 Tryz.underlying118 hi0 hz0 hz1 hz2 rfl (by decide) (.slice va t.L.length vc) t.L.length ((List.range t.L.length).map fun i=>ndV (t.pt i)) rfl HVO6.out ⟨w6.heap.size,0,none⟩ 1 1 [.iface (ndT x.kind) (.pointer (some ⟨b4,0,none⟩))] rfl rfl HNW.out HON.out HA1.out HA2.out (Nat.zero_le _) ?_;intro v7 w7 hown hgrow _ hat;obtain ⟨a7,c7,rfl,_⟩:=own_cel hown;have hr7:=HRF6.out.grown hgrow HFNE.out;obtain ⟨g0,g1⟩:=hr7.two;have hf1:=hr7.frozen 1;have hl7:=hr7.lt;have HOWN:=hid hown;have HGR:=hid hgrow;have HAT:=hid hat;clear hown hgrow hat hr7))
      go_ret
      have hfin:=Bld.fin (nm:=nm) HBLD3.out HLOW3.out HJ.out HK.out hl (by have:=HBIG.out;omega) HMODE.out HPJ.out HTO.out HN.out HB34.out HRF.out HVO.out HG5.out HM5.out HG6.out HM6.out HGR.out HOWN.out HAT.out
      refine ⟨t.add j nm (newN ds j x) b4 m4,by rw [HE.out];rfl,by rw [HE.out,← HNMV.out];rfl,hfin.1,hfin.2.1,?_⟩
      have h1:=HLOW.out.loF
      have h2:=HBLD.out.F
      exact (HB3.out.mono (by omega)).trans (hfin.2.2)
     ·rw [if_neg hk] at hlk
      have HE:=hid (addE_8 HEN.out HBIG.out HL1.out hl2 hk)
      by_cases hk3:(t.nd j).kind=3
      ·rw [if_pos hk3] at hlk
       have hta:=ta_dl (t.bk j)
       clear hl2 hk hk3
       go_wp2_with fail
       go_ret
       exact addPost_no HE.out HBLD.out HLOW.out HB3.out
      ·rw [if_neg hk3] at hlk
       have hta:=ta_df (t.bk j)
       clear hl2 hk hk3
       go_wp2_with fail
       go_ret
       exact addPost_no HE.out HBLD.out HLOW.out HB3.out
end Go.Proofs.YtdjpjfdeeelijaaGreatDoor
