/- Merged: Gt0 Gt1 Gt2 Gt3 Gt4. -/
import Derived.Test.YtdjpjfdeeelijaaGreatDoorKB1
import Derived.Test.YtdjpjfdeeelijaaGreatDoorKW
namespace Go.Proofs.YtdjpjfdeeelijaaGreatDoor
open Go.RowKit Go.Sort
/-- What a word leads to: nothing, a leaf (frame, prot, copy), a node (frame, what its words lead to). -/
inductive Tr where
 | no:Tr
 | lf:Nat→Nat→Bool→Tr
 | nd:Nat→(Nat→Tr)→Tr
def noK:Nat→Tr:=fun _=>.no
def isNo:Tr→Bool
 | .no=>true
 | _=>false
def wdT:Tr→Nat
 | .no=>0
 | .lf f p c=>f*4096+1+2*p+(if c then 16 else 0)
 | .nd f _=>f*4096+1
def updK (kids:Nat→Tr)(i:Nat)(c:Tr):Nat→Tr:=fun j=>if j=i then c else kids j
def le8 (x:Nat):List Int:=b2i (Wd.leB x 8)
theorem le8_len (x:Nat):(le8 x).length=8:=by unfold le8;rw [b2i_len,Wd.leB_len]
/-- The word i of frame f is x. -/
def WdAt (fs:List FR)(f i x:Nat):Prop:=∃ hf:f<fs.length,(fs[f].bs.drop (8*i)).take 8=le8 x
/-- The frames hold a tree; what lies below the lowest nodes are leaves. -/
def Holds (fs:List FR):Nat→Tr→Prop
 | 0,.no=>True
 | 0,.lf f p _=>f<fs.length∧p≤7
 | 0,.nd _ _=>False
 | _+1,.no=>True
 | _+1,.lf _ _ _=>False
 | k+1,.nd f kids=>∀ i,i<512→WdAt fs f i (wdT (kids i))∧Holds fs k (kids i)
theorem holds_no (fs:List FR)(k:Nat):Holds fs k .no:=by cases k <;> trivial
def nodesT:Nat→Tr→List Nat
 | 0,_=>[]
 | k+1,.nd f kids=>f::(List.range 512).flatMap fun i=>nodesT k (kids i)
 | _+1,_=>[]
def lfT:Nat→Tr→List Nat
 | 0,.lf f _ _=>[f]
 | 0,_=>[]
 | k+1,.nd _ kids=>(List.range 512).flatMap fun i=>lfT k (kids i)
 | _+1,_=>[]
def bareK (kids:Nat→Tr):Bool:=(List.range 512).all fun i=>isNo (kids i)
/-- No node below is without words. -/
def FullT:Nat→(Nat→Tr)→Prop
 | 0,_=>True
 | k+1,kids=>∀ i,i<512→∀ g kk,kids i=.nd g kk→bareK kk=false∧FullT k kk
theorem updK_at (kids:Nat→Tr)(i:Nat)(c:Tr):updK kids i c i=c:=by unfold updK;rw [if_pos rfl]
theorem updK_ne {kids:Nat→Tr}{i j:Nat}{c:Tr}(h:j≠i):updK kids i c j=kids j:=by unfold updK;rw [if_neg h]
theorem updK_same (kids:Nat→Tr)(i:Nat):updK kids i (kids i)=kids:=by
 funext j
 unfold updK
 split
 ·rename_i h;rw [h]
 ·rfl
theorem updK_twice (kids:Nat→Tr)(i:Nat)(c d:Tr):updK (updK kids i c) i d=updK kids i d:=by
 funext j
 unfold updK
 split <;> rfl
theorem bareK_iff {kids:Nat→Tr}:bareK kids=true↔∀ i,i<512→kids i=.no:=by
 unfold bareK
 rw [List.all_eq_true]
 constructor
 ·intro h i hi
  have:=h i (List.mem_range.2 hi)
  cases hk:kids i <;> rw [hk] at this <;> first|rfl|(cases this)
 ·intro h i hi
  rw [h i (List.mem_range.1 hi)]
  rfl
theorem bareK_not {kids:Nat→Tr}{i:Nat}(hi:i<512)(h:kids i≠.no):bareK kids=false:=by
 cases hb:bareK kids
 ·rfl
 ·exact absurd (bareK_iff.1 hb i hi) h
theorem bareK_has {kids:Nat→Tr}(h:bareK kids=false):∃ i,i<512∧kids i≠.no:=by
 refine Classical.byContradiction fun hn=>?_
 have:bareK kids=true:=bareK_iff.2 fun i hi=>Classical.byContradiction fun h1=>hn ⟨i,hi,h1⟩
 rw [h] at this
 cases this
/-- A list over all words, with one of them turned. -/
theorem flat_perm {α:Type}(h:Tr→List α)(kids:Nat→Tr)(l:List Nat)(i:Nat)(hi:i∈l)(hn:l.Nodup):
 ∃ L,(l.flatMap fun j=>h (kids j)).Perm (h (kids i)++L)∧(∀ c,(l.flatMap fun j=>h (updK kids i c j)).Perm (h c++L))∧∀ j∈l,j≠i→∀ g∈h (kids j),g∈L:=by
 induction l with
 | nil=>cases hi
 | cons x l ih=>
  rw [List.nodup_cons] at hn
  by_cases e:x=i
  ·subst e
   refine ⟨l.flatMap fun j=>h (kids j),by rw [List.flatMap_cons],fun c=>?_,fun j hj hne g hg=>?_⟩
   ·rw [List.flatMap_cons,updK_at]
    have:(l.flatMap fun j=>h (updK kids x c j))=l.flatMap fun j=>h (kids j):=by
     rw [List.flatMap_def,List.flatMap_def]
     congr 1
     refine List.map_congr_left fun j hj=>?_
     rw [updK_ne (by rintro rfl;exact hn.1 hj)]
    rw [this]
   ·rcases List.mem_cons.1 hj with e|hj
    ·exact absurd e hne
    ·exact List.mem_flatMap.2 ⟨j,hj,hg⟩
  ·rcases List.mem_cons.1 hi with e'|hi'
   ·exact absurd e'.symm e
   obtain ⟨L,h1,h2,h3⟩:=ih hi' hn.2
   refine ⟨h (kids x)++L,?_,fun c=>?_,fun j hj hne g hg=>?_⟩
   ·rw [List.flatMap_cons]
    refine ((List.Perm.refl _).append h1).trans ?_
    rw [← List.append_assoc,← List.append_assoc]
    exact List.perm_append_comm.append_right _
   ·rw [List.flatMap_cons,updK_ne e]
    refine ((List.Perm.refl _).append (h2 c)).trans ?_
    rw [← List.append_assoc,← List.append_assoc]
    exact List.perm_append_comm.append_right _
   ·rcases List.mem_cons.1 hj with rfl|hj
    ·exact List.mem_append_left _ hg
    ·exact List.mem_append_right _ (h3 j hj hne g hg)
theorem flat512 {α:Type}(h:Tr→List α)(kids:Nat→Tr)(i:Nat)(hi:i<512):
 ∃ L,((List.range 512).flatMap fun j=>h (kids j)).Perm (h (kids i)++L)∧(∀ c,((List.range 512).flatMap fun j=>h (updK kids i c j)).Perm (h c++L))∧∀ j,j<512→j≠i→∀ g∈h (kids j),g∈L:=by
 obtain ⟨L,h1,h2,h3⟩:=flat_perm h kids _ i (List.mem_range.2 hi) List.nodup_range
 exact ⟨L,h1,h2,fun j hj=>h3 j (List.mem_range.2 hj)⟩
theorem flat_none {α:Type}(h:Tr→List α)(h0:h .no=[])(kids:Nat→Tr)(hb:∀ i,i<512→kids i=.no):((List.range 512).flatMap fun j=>h (kids j))=[]:=by
 rw [List.flatMap_eq_nil_iff]
 intro i hi
 rw [hb i (List.mem_range.1 hi),h0]
theorem nodesT_no (k:Nat):nodesT k .no=[]:=by cases k <;> rfl
theorem lfT_no (k:Nat):lfT k .no=[]:=by cases k <;> rfl
theorem nodesT_bare {k f:Nat}{kids:Nat→Tr}(h:bareK kids=true):nodesT (k+1) (.nd f kids)=[f]:=by
 show f::_=_
 rw [flat_none (nodesT k) (nodesT_no k) kids (bareK_iff.1 h)]
theorem lfT_bare {k f:Nat}{kids:Nat→Tr}(h:bareK kids=true):lfT (k+1) (.nd f kids)=[]:=
 flat_none (lfT k) (lfT_no k) kids (bareK_iff.1 h)
theorem bare_noK:bareK noK=true:=bareK_iff.2 fun _ _=>rfl
/-! Words. -/
theorem wdAt_of_bs {fs fs':List FR}{f i x:Nat}(h:WdAt fs f i x)(hl:fs'.length=fs.length)(hb:∀ (h1:f<fs.length) (h2:f<fs'.length),fs'[f].bs=fs[f].bs):WdAt fs' f i x:=by
 obtain ⟨hf,e⟩:=h
 have hf':f<fs'.length:=by omega
 exact ⟨hf',by rw [hb hf hf'];exact e⟩
/-- The frames' bytes stand at g. -/
def SameBs (fs fs':List FR)(g:Nat):Prop:=∀ (h1:g<fs.length) (h2:g<fs'.length),fs'[g].bs=fs[g].bs
theorem Holds.mono {fs fs':List FR}(hl:fs'.length=fs.length):∀ {k:Nat} {t:Tr},Holds fs k t→(∀ g∈nodesT k t,SameBs fs fs' g)→Holds fs' k t
 | 0,.no,_,_=>trivial
 | 0,.lf f p c,h,_=>⟨by rw [hl];exact h.1,h.2⟩
 | 0,.nd _ _,h,_=>h
 | _+1,.no,_,_=>trivial
 | _+1,.lf _ _ _,h,_=>h
 | k+1,.nd f kids,h,hb=>fun i hi=>by
  obtain ⟨h1,h2⟩:=h i hi
  refine ⟨wdAt_of_bs h1 hl (hb f (List.mem_cons_self ..)),Holds.mono hl h2 fun g hg=>hb g ?_⟩
  refine List.mem_cons_of_mem _ ?_
  rw [List.mem_flatMap]
  exact ⟨i,List.mem_range.2 hi,hg⟩
theorem kid_nodes {k f:Nat}{kids:Nat→Tr}{i g:Nat}(hi:i<512)(h:g∈nodesT k (kids i)):g∈nodesT (k+1) (.nd f kids):=by
 refine List.mem_cons_of_mem _ ?_
 rw [List.mem_flatMap]
 exact ⟨i,List.mem_range.2 hi,h⟩
theorem splice_word {L:List Int}{i j:Nat}{l:List Int}(hL:L.length=4096)(hl:l.length=8)(hi:i<512)(_hj:j<512):((splice L (8*i) l).drop (8*j)).take 8=if j=i then l else (L.drop (8*j)).take 8:=by
 refine List.ext_getElem? fun q=>?_
 by_cases hq:q<8
 ·rw [List.getElem?_take,if_pos hq,List.getElem?_drop,splice_get _ _ _ _ (by omega)]
  by_cases e:j=i
  ·subst e
   rw [if_pos rfl,if_neg (by omega),if_pos (by omega)]
   congr 1
   omega
  ·rw [if_neg e,List.getElem?_take,if_pos hq,List.getElem?_drop]
   by_cases c:8*j+q<8*i
   ·rw [if_pos c]
   ·rw [if_neg c,if_neg (by omega)]
 ·rw [List.getElem?_take,if_neg hq]
  split
  ·rw [List.getElem?_eq_none (by omega)]
  ·rw [List.getElem?_take,if_neg hq]
def layS (fs:List FR)(f i x:Nat):List FR:=storeS fs (f:Int) ((8*i:Nat):Int) (le8 x)
theorem layE {fs:List FR}{f i:Nat}(x:Nat)(hf:f<fs.length)(h0:fs[f].cnt≠0)(hi:i<512):loadE fs (f:Int) ((8*i:Nat):Int) (le8 x).length=0:=by
 unfold loadE takE withinB
 rw [cntF_at hf,if_neg h0,le8_len]
 simp
 omega
theorem layS_is {fs:List FR}{f i:Nat}(x:Nat)(hf:f<fs.length)(h0:fs[f].cnt≠0)(hi:i<512):layS fs f i x=fs.set f ⟨splice fs[f].bs (8*i) (le8 x),fs[f].cnt⟩:=by
 unfold layS storeS
 rw [if_pos (layE x hf h0 hi),Int.toNat_natCast,Int.toNat_natCast,getF_at _ _ _ hf]
theorem layS_len {fs:List FR}{f i x:Nat}:(layS fs f i x).length=fs.length:=by
 unfold layS storeS
 split
 ·rw [List.length_set]
 ·rfl
theorem layS_other {fs:List FR}{f i x g:Nat}(hg:g≠f):SameBs fs (layS fs f i x) g:=by
 intro h1 h2
 unfold layS storeS at h2 ⊢
 split
 ·rename_i c
  simp only [c,if_true,Int.toNat_natCast] at h2 ⊢
  rw [List.getElem_set_ne (fun e=>hg e.symm)]
 ·rename_i c
  simp only [c,if_false] at h2 ⊢
theorem layS_wd {fs:List FR}(hok:FsOk fs){f i x j y:Nat}(hf:f<fs.length)(h0:fs[f].cnt≠0)(hi:i<512)(hj:j<512)(h:j≠i→WdAt fs f j y)(hy:j=i→y=x):WdAt (layS fs f i x) f j y:=by
 refine ⟨by rw [layS_len];exact hf,?_⟩
 have e:(layS fs f i x)[f]'(by rw [layS_len];exact hf)=⟨splice fs[f].bs (8*i) (le8 x),fs[f].cnt⟩:=by
  simp only [layS_is x hf h0 hi]
  rw [List.getElem_set_self]
 rw [e]
 show List.take 8 (List.drop (8*j) (splice fs[f].bs (8*i) (le8 x)))=le8 y
 rw [splice_word (hok _ (List.getElem_mem hf)) (le8_len x) hi hj]
 split
 ·rename_i c;rw [hy c]
 ·rename_i c;exact (h c).2
theorem wdAt_zero {fs:List FR}{m i:Nat}(hm:m<fs.length)(hi:i<512):WdAt (fs.set m one0) m i 0:=by
 refine ⟨by rw [List.length_set];exact hm,?_⟩
 rw [List.getElem_set_self]
 show List.take 8 (List.drop (8*i) (List.replicate 4096 0))=le8 0
 rw [List.drop_replicate,List.take_replicate,Nat.min_eq_left (by omega)]
 rfl
def layC (s:CC)(f i x:Nat):CC:={ s with fs:=layS s.fs f i x }
def dnC (s:CC)(g:Nat):CC:={ s with fs:=downS s.fs (g:Int) }
def upC (s:CC)(g:Nat):CC:={ s with fs:=upS s.fs (g:Int) }
def lookT (ix:Nat→Nat):Nat→(Nat→Tr)→Tr
 | 0,kids=>kids (ix 0)
 | k+1,kids=>match kids (ix (k+1)) with
  | .nd _ kk=>lookT ix k kk
  | _=>.no
theorem lookT_nd {ix:Nat→Nat}{k g:Nat}{kids kk:Nat→Tr}(h:kids (ix (k+1))=.nd g kk):lookT ix (k+1) kids=lookT ix k kk:=by rw [lookT,h]
theorem lookT_no {ix:Nat→Nat}{k:Nat}{kids:Nat→Tr}(h:kids (ix (k+1))=.no):lookT ix (k+1) kids=.no:=by rw [lookT,h]
theorem lookT_noK (ix:Nat→Nat)(k:Nat):lookT ix k noK=.no:=by cases k <;> rfl
/-- How one goes down: are nodes taken, are nodes given up, what is done at the leaf's word. -/
structure Vis where
 grow:Bool
 prune:Bool
 leaf:CC→Nat→Nat→Tr→CC × Tr × Int
def downT (v:Vis)(ix:Nat→Nat):Nat→CC→Nat→(Nat→Tr)→CC × (Nat→Tr) × Int
 | 0,s,f,kids=>((v.leaf s f (ix 0) (kids (ix 0))).1,updK kids (ix 0) (v.leaf s f (ix 0) (kids (ix 0))).2.1,(v.leaf s f (ix 0) (kids (ix 0))).2.2)
 | k+1,s,f,kids=>match kids (ix (k+1)) with
  | .nd g kk=>
   if (v.prune&&bareK (downT v ix k s g kk).2.1)=true then (layC (dnC (downT v ix k s g kk).1 g) f (ix (k+1)) 0,updK kids (ix (k+1)) .no,(downT v ix k s g kk).2.2)
   else ((downT v ix k s g kk).1,updK kids (ix (k+1)) (.nd g (downT v ix k s g kk).2.1),(downT v ix k s g kk).2.2)
  | _=>
   if v.grow=false then (s,kids,6) else
   if (takC s).2.1≠0 then ((takC s).2.2,kids,(takC s).2.1) else
   if (downT v ix k (takC s).2.2 (takC s).1.toNat noK).2.2=0 then (layC (downT v ix k (takC s).2.2 (takC s).1.toNat noK).1 f (ix (k+1)) ((takC s).1.toNat*4096+1),updK kids (ix (k+1)) (.nd (takC s).1.toNat (downT v ix k (takC s).2.2 (takC s).1.toNat noK).2.1),0)
   else (dnC (downT v ix k (takC s).2.2 (takC s).1.toNat noK).1 (takC s).1.toNat,kids,(downT v ix k (takC s).2.2 (takC s).1.toNat noK).2.2)
section
variable {v:Vis}{ix:Nat→Nat}{k f g:Nat}{s:CC}{kids kk:Nat→Tr}
theorem downT_nd (h:kids (ix (k+1))=.nd g kk):downT v ix (k+1) s f kids=
 if (v.prune&&bareK (downT v ix k s g kk).2.1)=true then (layC (dnC (downT v ix k s g kk).1 g) f (ix (k+1)) 0,updK kids (ix (k+1)) .no,(downT v ix k s g kk).2.2)
  else ((downT v ix k s g kk).1,updK kids (ix (k+1)) (.nd g (downT v ix k s g kk).2.1),(downT v ix k s g kk).2.2):=by
 rw [downT,h]
theorem downT_stay (h:kids (ix (k+1))=.no)(hg:v.grow=false):downT v ix (k+1) s f kids=(s,kids,6):=by
 rw [downT,h]
 simp only
 rw [if_pos hg]
theorem downT_none {e:Int}{m:Int}{s1:CC}(h:kids (ix (k+1))=.no)(hg:v.grow=true)(ht:takC s=(m,e,s1))(he:e≠0):downT v ix (k+1) s f kids=(s1,kids,e):=by
 rw [downT,h]
 simp only
 rw [if_neg (by rw [hg];decide),ht,if_pos he]
theorem downT_took {m:Nat}{s1:CC}(h:kids (ix (k+1))=.no)(hg:v.grow=true)(ht:takC s=((m:Int),0,s1)):downT v ix (k+1) s f kids=
 if (downT v ix k s1 m noK).2.2=0 then (layC (downT v ix k s1 m noK).1 f (ix (k+1)) (m*4096+1),updK kids (ix (k+1)) (.nd m (downT v ix k s1 m noK).2.1),0)
  else (dnC (downT v ix k s1 m noK).1 m,kids,(downT v ix k s1 m noK).2.2):=by
 rw [downT,h]
 simp only
 rw [if_neg (by rw [hg];decide),ht,if_neg (by simp)]
 simp only [Int.toNat_natCast]
end
def hxT (k f:Nat)(kids:Nat→Tr):List Nat:=nodesT (k+1) (.nd f kids)++lfT (k+1) (.nd f kids)
/-- A node of level k + 1 in frame f, and all that lies below it; R: what else is counted. -/
structure TI (rd:Int→Int→List UInt8 × Int)(s:CC)(k f:Nat)(kids:Nat→Tr)(R:List Nat):Prop where
 good:Good rd s (hxT k f kids++R)
 nd:(nodesT (k+1) (.nd f kids)).Nodup
 off:∀ x∈s.sl,∀ g∈nodesT (k+1) (.nd f kids),x.f≠(g:Int)
 holds:Holds s.fs (k+1) (.nd f kids)
 full:FullT k kids
/-- What is done at a leaf's word keeps. -/
structure LP (v:Vis)(rd:Int→Int→List UInt8 × Int)(B:Int→List Nat)(s:CC)(f i:Nat)(c:Tr)(R:List Nat)(r:CC × Tr × Int):Prop where
 good:Good rd r.1 (f::(lfT 0 r.2.1++(B r.2.2++R)))
 holds:Holds r.1.fs 0 r.2.1
 wd:WdAt r.1.fs f i (wdT r.2.1)
 same:∀ j,j<512→j≠i→∀ x,WdAt s.fs f j x→WdAt r.1.fs f j x
 bs:∀ g,g≠f→SameBs s.fs r.1.fs g
 len:r.1.fs.length=s.fs.length
 tn:r.1.tn=s.tn
 sl:r.1.sl=s.sl
 err:r.2.2≠0→r.2.1=c
 mono:v.prune=false→r.2.1=.no→c=.no
 solid:v.grow=true→r.2.2=0∧r.2.1≠.no
structure LeafOk (v:Vis)(rd:Int→Int→List UInt8 × Int)(A:List Nat)(B:Int→List Nat)(Pr:CC→Prop)(Pc:Tr→Prop):Prop where
 pre:v.grow=true→∀ s,Pr s
 ok:∀ s f i c R,Pr s→Pc c→i<512→Good rd s (f::(lfT 0 c++(A++R)))→(∀ x∈s.sl,x.f≠(f:Int))→Holds s.fs 0 c→WdAt s.fs f i (wdT c)→LP v rd B s f i c R (v.leaf s f i c)
 back:∀ e,e≠0→B e=A
 sub:∀ e,∀ g∈B e,g∈A
 excl:v.grow=true→v.prune=false
structure DP (v:Vis)(rd:Int→Int→List UInt8 × Int)(A:List Nat)(B:Int→List Nat)(s:CC)(k f:Nat)(kids:Nat→Tr)(R:List Nat)(s':CC)(kk':Nat→Tr)(e:Int):Prop where
 ti:TI rd s' k f kk' (B e++R)
 keep:∀ g∈A++R,g∉nodesT (k+1) (.nd f kids)→SameBs s.fs s'.fs g∧g∉nodesT (k+1) (.nd f kk')
 more:v.prune=false→∀ g∈nodesT (k+1) (.nd f kids),g∈nodesT (k+1) (.nd f kk')
 len:s'.fs.length=s.fs.length
 tn:s'.tn=s.tn
 sub:s'.sl.Sublist s.sl
 slv:v.grow=false→s'.sl=s.sl
 err:e≠0→kk'=kids
 mono:v.prune=false→∀ j,j<512→kk' j=.no→kids j=.no
 solid:v.grow=true→e=0→bareK kk'=false
 sum:v.grow=true→e≠0→freeN s'.fs+s'.sl.length=freeN s.fs+s.sl.length
 four:v.grow=true→e≠0→e=4
 room:v.grow=true→s.sl=[]→k≤freeN s.fs→e=0
abbrev DPr (v:Vis)(rd:Int→Int→List UInt8 × Int)(A:List Nat)(B:Int→List Nat)(s:CC)(k f:Nat)(kids:Nat→Tr)(R:List Nat)(r:CC × (Nat→Tr) × Int):Prop:=DP v rd A B s k f kids R r.1 r.2.1 r.2.2
section
variable {rd:Int→Int→List UInt8 × Int}{s:CC}{hx:List Nat}
theorem Good.at_ (G:Good rd s hx){f:Nat}(h:f∈hx):∃ hf:f<s.fs.length,s.fs[f].cnt≠0:=by
 have hf:=G.hold f h
 refine ⟨hf,?_⟩
 rw [G.cnt f hf]
 have:=count_pos_of h
 omega
theorem Good.lay (G:Good rd s hx){f:Nat}(h:f∈hx)(hn:∀ x∈s.sl,x.f≠(f:Int)){i x:Nat}(hi:i<512):Good rd (layC s f i x) hx:=by
 obtain ⟨hf,h0⟩:=G.at_ h
 unfold layC
 rw [layS_is x hf h0 hi]
 have hb:(s.fs[f].bs).length=4096:=G.lens _ (List.getElem_mem hf)
 refine G.setFs hf ?_ (fun _ _=>rfl) G.hold ?_ (fun y hy e=>absurd e (hn y hy))
 ·exact G.cnt f hf
 ·show (splice s.fs[f].bs (8*i) (le8 x)).length=4096
  rw [length_splice _ _ _ (by rw [le8_len];omega)]
  exact hb
theorem takC_sum {k:Nat}{s':CC}(G:Good rd s hx)(h:takC s=((k:Int),0,s')):freeN s'.fs+s'.sl.length+1=freeN s.fs+s.sl.length:=by
 cases hl:lowR s.fs with
 | some q=>
  obtain ⟨hq,h0⟩:=lowC_is hl
  rw [takC_free hl] at h
  have e:s'={ s with fs:=s.fs.set q one0 }:=(congrArg (fun x:Int × Int × CC=>x.2.2) h).symm
  rw [e]
  simp only
  have:=freeN_set s.fs q one0 hq
  rw [h0,one0_cnt] at this
  simp at this
  omega
 | none=>
  cases ho:s.sl.find? (loB s.fs) with
  | none=>rw [takC_none hl ho] at h;cases h
  | some x=>
   have hx':=List.mem_of_find?_eq_some ho
   obtain ⟨q,e,hq,h1,hc⟩:=G.oldest hx' (List.find?_some ho)
   obtain ⟨e1,e2,e3,e4⟩:=take_down hl hq h1
   rw [takC_old hl ho,e,e2,e3,e4] at h
   have e5:s'={ s with fs:=s.fs.set q one0,sl:=strikeS s.sl x.i x.p }:=(congrArg (fun x:Int × Int × CC=>x.2.2) h).symm
   rw [e5]
   simp only
   have h6:=freeN_set s.fs q one0 hq
   rw [h1,one0_cnt] at h6
   simp at h6
   have h7:=countP_strike (fun _=>true) G.keys hx'
   simp only [List.countP_true,if_true] at h7
   omega
theorem dn_len {g:Nat}:(dnC s g).fs.length=s.fs.length:=by
 unfold dnC downS
 simp only
 split
 ·rfl
 ·rw [List.length_set]
theorem dn_bs {g h:Nat}:SameBs s.fs (dnC s g).fs h:=by
 intro h1 h2
 unfold dnC downS at h2 ⊢
 simp only at h2 ⊢
 split
 ·rfl
 ·rename_i c
  obtain ⟨k,hk,e,_⟩:=cnt_is c
  obtain rfl:g=k:=by omega
  simp only [Int.toNat_natCast]
  by_cases e:g=h
  ·subst e
   rw [List.getElem_set_self,getF_at _ _ _ hk]
  ·rw [List.getElem_set_ne e]
theorem up_len {g:Nat}:(upC s g).fs.length=s.fs.length:=by
 unfold upC upS
 simp only
 split
 ·rfl
 ·rw [List.length_set]
theorem up_bs {g h:Nat}:SameBs s.fs (upC s g).fs h:=by
 intro h1 h2
 unfold upC upS at h2 ⊢
 simp only at h2 ⊢
 split
 ·rfl
 ·rename_i c
  obtain ⟨k,hk,e,_⟩:=cnt_is c
  obtain rfl:g=k:=by omega
  simp only [Int.toNat_natCast]
  by_cases e:g=h
  ·subst e
   rw [List.getElem_set_self,getF_at _ _ _ hk]
  ·rw [List.getElem_set_ne e]
/-- A frame that is counted once and given up is free. -/
theorem dn_free {g:Nat}(hg:g<s.fs.length)(h1:s.fs[g].cnt=1):freeN (dnC s g).fs=freeN s.fs+1:=by
 unfold dnC
 simp only
 rw [downS_at hg (by omega)]
 have:=freeN_set s.fs g ⟨s.fs[g].bs,s.fs[g].cnt-1⟩ hg
 rw [h1] at this
 simp at this
 rw [h1]
 simpa using this
theorem SameBs.trans {a b c:List FR}{g:Nat}(h:SameBs a b g)(k:SameBs b c g)(hl:b.length=a.length):SameBs a c g:=fun h1 h2=>(k (by omega) h2).trans (h h1 (by omega))
theorem SameBs.refl {a:List FR}{g:Nat}:SameBs a a g:=fun _ _=>rfl
theorem nodes_one (f:Nat)(kids:Nat→Tr):nodesT 1 (.nd f kids)=[f]:=by
 have h:(List.range 512).flatMap (fun i=>nodesT 0 (kids i))=[]:=List.flatMap_eq_nil_iff.2 fun _ _=>rfl
 show f::(List.range 512).flatMap (fun i=>nodesT 0 (kids i))=_
 rw [h]
end
theorem nd_one (f:Nat):[f].Nodup:=List.nodup_cons.2 ⟨fun h=>(by cases h),List.nodup_nil⟩
theorem perm_of {l m:List Nat}(h:∀ a,l.count a=m.count a):l.Perm m:=List.perm_iff_count.2 h
theorem nodup_cnt {l:List Nat}(h:∀ a,l.count a≤1):l.Nodup:=List.nodup_iff_count.2 h
theorem cnt_nodup {l:List Nat}(h:l.Nodup)(a:Nat):l.count a≤1:=List.nodup_iff_count.1 h a
theorem mem_cnt {l:List Nat}{a:Nat}(h:a∈l):1≤l.count a:=List.count_pos_iff.2 h
theorem cnt_mem {l:List Nat}{a:Nat}(h:1≤l.count a):a∈l:=List.count_pos_iff.1 h
theorem nmem_cnt {l:List Nat}{a:Nat}(h:a∉l):l.count a=0:=List.count_eq_zero.2 h
section
variable {v:Vis}{rd:Int→Int→List UInt8 × Int}{A:List Nat}{B:Int→List Nat}{Pr:CC→Prop}{Pc:Tr→Prop}{ix:Nat→Nat}
/-- The parts of a node: the word that is looked at, and all other words. -/
structure Parts (k f:Nat)(kids:Nat→Tr)(i:Nat)(Ln Ll:List Nat):Prop where
 n0:∀ a,(nodesT (k+1) (.nd f kids)).count a=[f].count a+(nodesT k (kids i)).count a+Ln.count a
 l0:∀ a,(lfT (k+1) (.nd f kids)).count a=(lfT k (kids i)).count a+Ll.count a
 n1:∀ c a,(nodesT (k+1) (.nd f (updK kids i c))).count a=[f].count a+(nodesT k c).count a+Ln.count a
 l1:∀ c a,(lfT (k+1) (.nd f (updK kids i c))).count a=(lfT k c).count a+Ll.count a
 rest:∀ j,j<512→j≠i→∀ g∈nodesT k (kids j),g∈Ln
theorem parts (k f:Nat)(kids:Nat→Tr)(i:Nat)(hi:i<512):∃ Ln Ll,Parts k f kids i Ln Ll:=by
 obtain ⟨Ln,a1,a2,a3⟩:=flat512 (nodesT k) kids i hi
 obtain ⟨Ll,b1,b2,_⟩:=flat512 (lfT k) kids i hi
 refine ⟨Ln,Ll,fun a=>?_,fun a=>?_,fun c a=>?_,fun c a=>?_,a3⟩
 ·show List.count a (f::_)=_
  rw [List.count_cons,a1.count_eq,List.count_append,List.count_singleton]
  omega
 ·show List.count a (List.flatMap _ _)=_
  rw [b1.count_eq,List.count_append]
 ·show List.count a (f::_)=_
  rw [List.count_cons,(a2 c).count_eq,List.count_append,List.count_singleton]
  omega
 ·show List.count a (List.flatMap _ _)=_
  rw [(b2 c).count_eq,List.count_append]
theorem hx_count (k f:Nat)(kids:Nat→Tr)(a:Nat):(hxT k f kids).count a=(nodesT (k+1) (.nd f kids)).count a+(lfT (k+1) (.nd f kids)).count a:=List.count_append
theorem downT_zero (L:LeafOk v rd A B Pr Pc)(hix:∀ j,ix j<512)(s:CC)(f:Nat)(kids:Nat→Tr)(R:List Nat)(hp:Pr s)(hc:Pc (lookT ix 0 kids))(H:TI rd s 0 f kids (A++R)):DPr v rd A B s 0 f kids R (downT v ix 0 s f kids):=by
 obtain ⟨Ln,Ll,P⟩:=parts 0 f kids (ix 0) (hix 0)
 have hn1:∀ kk,nodesT 1 (.nd f kk)=[f]:=nodes_one f
 have hoff:∀ x∈s.sl,x.f≠(f:Int):=fun x hx'=>H.off x hx' f (by rw [hn1];exact List.mem_singleton.2 rfl)
 have G:Good rd s (f::(lfT 0 (kids (ix 0))++(A++(Ll++R)))):=H.good.perm (perm_of fun a=>by
  have h1:=P.l0 a
  simp only [List.count_append,hx_count,hn1,List.count_cons,List.count_nil] at h1 ⊢
  omega)
 obtain ⟨hw,hh⟩:=H.holds (ix 0) (hix 0)
 have D:=L.ok s f (ix 0) (kids (ix 0)) (Ll++R) hp hc (hix 0) G hoff hh hw
 show DPr v rd A B s 0 f kids R ((v.leaf s f (ix 0) (kids (ix 0))).1,updK kids (ix 0) (v.leaf s f (ix 0) (kids (ix 0))).2.1,(v.leaf s f (ix 0) (kids (ix 0))).2.2)
 generalize v.leaf s f (ix 0) (kids (ix 0))=r at D ⊢
 unfold DPr
 dsimp only
 refine ⟨⟨?_,?_,?_,?_,trivial⟩,?_,?_,D.len,D.tn,?_,fun _=>D.sl,?_,?_,?_,?_,?_,?_⟩
 ·exact D.good.perm (perm_of fun a=>by
   have h1:=P.l1 r.2.1 a
   simp only [List.count_append,hx_count,hn1,List.count_cons,List.count_nil] at h1 ⊢
   omega)
 ·rw [hn1];exact nd_one f
 ·intro x hx' g hg
  rw [hn1,List.mem_singleton] at hg
  rw [hg]
  exact hoff x (by rw [← D.sl];exact hx')
 ·intro j hj
  by_cases e:j=ix 0
  ·subst e
   simp only [updK_at]
   exact ⟨D.wd,D.holds⟩
  ·simp only [updK_ne e]
   refine ⟨D.same j hj e _ (H.holds j hj).1,(H.holds j hj).2.mono D.len fun g hg=>?_⟩
   cases hg
 ·intro g hg hn
  rw [hn1] at hn ⊢
  exact ⟨D.bs g (fun e=>hn (List.mem_singleton.2 e)),hn⟩
 ·intro _ g hg
  rw [hn1] at hg ⊢
  exact hg
 ·rw [D.sl];exact List.Sublist.refl _
 ·intro he
  rw [D.err he,updK_same]
 ·intro hp j hj hno
  by_cases e:j=ix 0
  ·subst e
   rw [updK_at] at hno
   exact D.mono hp hno
  ·rwa [updK_ne e] at hno
 ·intro hg _
  exact bareK_not (hix 0) (by rw [updK_at];exact (D.solid hg).2)
 ·intro hg he
  exact absurd (D.solid hg).1 he
 ·intro hg he
  exact absurd (D.solid hg).1 he
 ·intro hg _ _
  exact (D.solid hg).1
end
section
variable {v:Vis}{rd:Int→Int→List UInt8 × Int}{A:List Nat}{B:Int→List Nat}{Pr:CC→Prop}{Pc:Tr→Prop}{ix:Nat→Nat}
/-- Down the word of a node that is there. -/
theorem downT_there (L:LeafOk v rd A B Pr Pc)(hix:∀ j,ix j<512)(k:Nat)(s:CC)(f g:Nat)(kids kk:Nat→Tr)(R:List Nat)(hk:kids (ix (k+1))=.nd g kk)(hp:Pr s)(hc0:Pc (lookT ix (k+1) kids))(H:TI rd s (k+1) f kids (A++R))
 (IH:∀ s f kids R,Pr s→Pc (lookT ix k kids)→TI rd s k f kids (A++R)→DPr v rd A B s k f kids R (downT v ix k s f kids)):DPr v rd A B s (k+1) f kids R (downT v ix (k+1) s f kids):=by
 have hi:=hix (k+1)
 rw [downT_nd hk]
 rw [lookT_nd hk] at hc0
 obtain ⟨Ln,Ll,P⟩:=parts (k+1) f kids (ix (k+1)) hi
 generalize ix (k+1)=i at hk hi P ⊢
 obtain ⟨hw,hh⟩:=H.holds i hi
 obtain ⟨hb0,hf0⟩:=H.full i hi g kk hk
 have hnd:=fun a=>cnt_nodup H.nd a
 have C:TI rd s k g kk (A++(f::(Ln++(Ll++R)))):=by
  refine ⟨H.good.perm (perm_of fun a=>?_),nodup_cnt fun a=>?_,fun x hx' h hh'=>H.off x hx' h (cnt_mem ?_),by rw [hk] at hh;exact hh,hf0⟩
  ·have h1:=P.n0 a
   have h2:=P.l0 a
   rw [hk] at h1 h2
   simp only [List.count_append,hx_count,List.count_cons,List.count_nil] at h1 h2 ⊢
   omega
  ·have h1:=P.n0 a
   have h2:=hnd a
   rw [hk] at h1
   omega
  ·have h1:=P.n0 h
   rw [hk] at h1
   have:=mem_cnt hh'
   omega
 have D:=IH s g kk (f::(Ln++(Ll++R))) hp hc0 C
 generalize downT v ix k s g kk=r at D ⊢
 have hfR:∀ h,h∈f::Ln→h∈A++(f::(Ln++(Ll++R))):=fun h hh'=>by
  rcases List.mem_cons.1 hh' with rfl|hh'
  ·exact List.mem_append_right _ (List.mem_cons_self ..)
  ·exact List.mem_append_right _ (List.mem_cons_of_mem _ (List.mem_append_left _ hh'))
 have hfN:∀ h,h∈f::Ln→h∉nodesT (k+1) (.nd g kk):=fun h hh' hn=>by
  have h1:=P.n0 h
  rw [hk] at h1
  have h2:=hnd h
  have h3:=mem_cnt hn
  have h4:=mem_cnt hh'
  rw [List.count_cons] at h4
  simp only [List.count_cons,List.count_nil] at h1
  omega
 have hfB:=fun h hh'=>D.keep h (hfR h hh') (hfN h hh')
 have hself:SameBs s.fs r.1.fs f:=(hfB f (List.mem_cons_self ..)).1
 have hoth:∀ j,j<512→j≠i→Holds r.1.fs (k+1) (kids j):=fun j hj hne=>(H.holds j hj).2.mono D.len fun h hh'=>(hfB h (List.mem_cons_of_mem _ (P.rest j hj hne h hh'))).1
 have hwoth:∀ j,j<512→WdAt r.1.fs f j (wdT (kids j)):=fun j hj=>wdAt_of_bs (H.holds j hj).1 D.len hself
 have hkR:∀ h∈A++R,h∈A++(f::(Ln++(Ll++R))):=fun h hh'=>by
  rcases List.mem_append.1 hh' with hh'|hh'
  ·exact List.mem_append_left _ hh'
  ·exact List.mem_append_right _ (List.mem_cons_of_mem _ (List.mem_append_right _ (List.mem_append_right _ hh')))
 by_cases hc:(v.prune&&bareK r.2.1)=true
 ·rw [if_pos hc]
  unfold DPr
  dsimp only
  rw [Bool.and_eq_true] at hc
  have hng:v.grow=true→False:=fun hg=>by
   have:=L.excl hg
   rw [hc.1] at this
   cases this
  have he0:r.2.2=0:=Classical.byContradiction fun he=>by
   have:=D.err he
   rw [this,hb0] at hc
   cases hc.2
  have G1:Good rd r.1 (g::(B r.2.2++(f::(Ln++(Ll++R))))):=D.ti.good.perm (perm_of fun a=>by
   simp only [List.count_append,hx_count,List.count_cons,nodesT_bare hc.2,lfT_bare hc.2,List.count_nil]
   omega)
  have G2:Good rd (dnC r.1 g) (B r.2.2++(f::(Ln++(Ll++R)))):=G1.down
  have hfm:f∈B r.2.2++(f::(Ln++(Ll++R))):=List.mem_append_right _ (List.mem_cons_self ..)
  have hoff:∀ x∈(dnC r.1 g).sl,x.f≠(f:Int):=fun x hx'=>H.off x (D.sub.subset hx') f (List.mem_cons_self ..)
  obtain ⟨hf2,hf3⟩:=G2.at_ hfm
  have hbs:∀ h,h≠f→SameBs r.1.fs (layC (dnC r.1 g) f i 0).fs h:=fun h hne=>(dn_bs (s:=r.1) (g:=g)).trans (layS_other hne) dn_len
  have hlen:(layC (dnC r.1 g) f i 0).fs.length=s.fs.length:=by
   show (layS _ _ _ _).length=_
   rw [layS_len,dn_len,D.len]
  refine ⟨⟨(G2.lay hfm hoff hi).perm (perm_of fun a=>?_),nodup_cnt fun a=>?_,fun x hx' h hh'=>?_,fun j hj=>?_,?_⟩,?_,?_,hlen,D.tn,D.sub,D.slv,?_,?_,?_,?_,?_,?_⟩
  ·have h1:=P.n1 .no a
   have h2:=P.l1 .no a
   rw [nodesT_no] at h1
   rw [lfT_no] at h2
   simp only [List.count_append,hx_count,List.count_cons,List.count_nil] at h1 h2 ⊢
   omega
  ·have h1:=P.n0 a
   have h2:=P.n1 .no a
   rw [nodesT_no] at h2
   have h3:=hnd a
   simp only [List.count_nil] at h2 ⊢
   omega
  ·refine H.off x (D.sub.subset hx') h (cnt_mem ?_)
   have h1:=P.n0 h
   have h2:=P.n1 .no h
   rw [nodesT_no,List.count_nil] at h2
   have:=mem_cnt hh'
   omega
  ·by_cases e:j=i
   ·subst e
    simp only [updK_at]
    exact ⟨layS_wd G2.lens hf2 hf3 hi hj (fun h=>absurd rfl h) (fun _=>rfl),trivial⟩
   ·simp only [updK_ne e]
    refine ⟨layS_wd G2.lens hf2 hf3 hi hj (fun _=>wdAt_of_bs (hwoth j hj) dn_len dn_bs) (fun h=>absurd h e),(hoth j hj e).mono (by rw [hlen,D.len]) fun h hh'=>hbs h ?_⟩
    rintro rfl
    have h1:=P.n0 h
    have h2:=hnd h
    have h3:=mem_cnt (P.rest j hj e h hh')
    simp only [List.count_cons,List.count_nil] at h1
    simp at h1
    omega
  ·intro j hj g' kk' hkk
   by_cases e:j=i
   ·subst e
    rw [updK_at] at hkk
    cases hkk
   ·rw [updK_ne e] at hkk
    exact H.full j hj g' kk' hkk
  ·intro h hh' hn
   have h1:=P.n0 h
   rw [nmem_cnt hn] at h1
   have h3:h∉nodesT (k+1) (.nd g kk):=fun hm=>by
    have:=mem_cnt hm
    rw [hk] at h1
    omega
   have hne:h≠f:=fun e=>hn (e▸List.mem_cons_self ..)
   refine ⟨(D.keep h (hkR h hh') h3).1.trans (hbs h hne) D.len,fun hm=>?_⟩
   have h2:=P.n1 .no h
   rw [nodesT_no,List.count_nil] at h2
   have:=mem_cnt hm
   omega
  ·intro hp
   rw [hc.1] at hp
   cases hp
  ·intro he
   exact absurd he0 he
  ·intro hp
   rw [hc.1] at hp
   cases hp
  ·intro hg;exact (hng hg).elim
  ·intro hg;exact (hng hg).elim
  ·intro hg;exact (hng hg).elim
  ·intro hg;exact (hng hg).elim
 ·rw [if_neg hc]
  unfold DPr
  dsimp only
  have hnb:bareK r.2.1=false:=by
   cases hp:v.prune with
   | true=>
    rw [hp,Bool.true_and] at hc
    simpa using hc
   | false=>
    obtain ⟨j,hj,hjn⟩:=bareK_has hb0
    exact bareK_not hj fun e=>hjn (D.mono hp j hj e)
  refine ⟨⟨D.ti.good.perm (perm_of fun a=>?_),nodup_cnt fun a=>?_,fun x hx' h hh'=>?_,fun j hj=>?_,?_⟩,?_,?_,D.len,D.tn,D.sub,D.slv,?_,?_,?_,?_,?_,?_⟩
  ·have h1:=P.n1 (.nd g r.2.1) a
   have h2:=P.l1 (.nd g r.2.1) a
   simp only [List.count_append,hx_count,List.count_cons,List.count_nil] at h1 h2 ⊢
   omega
  ·have h1:=P.n0 a
   have h2:=P.n1 (.nd g r.2.1) a
   have h3:=hnd a
   have h4:=cnt_nodup D.ti.nd a
   rw [hk] at h1
   by_cases hm:a∈f::Ln
   ·have:=nmem_cnt (hfB a hm).2
    omega
   ·have h5:=nmem_cnt hm
    rw [List.count_cons] at h5
    simp only [List.count_cons,List.count_nil] at h2 ⊢
    omega
  ·have h2:=P.n1 (.nd g r.2.1) h
   by_cases hm:h∈nodesT (k+1) (.nd g r.2.1)
   ·exact D.ti.off x hx' h hm
   ·refine H.off x (D.sub.subset hx') h (cnt_mem ?_)
    have h1:=P.n0 h
    have h3:=nmem_cnt hm
    have:=mem_cnt hh'
    omega
  ·by_cases e:j=i
   ·subst e
    simp only [updK_at]
    have:=hwoth j hj
    rw [hk] at this
    exact ⟨this,D.ti.holds⟩
   ·simp only [updK_ne e]
    exact ⟨hwoth j hj,hoth j hj e⟩
  ·intro j hj g' kk' hkk
   by_cases e:j=i
   ·subst e
    rw [updK_at] at hkk
    cases hkk
    exact ⟨hnb,D.ti.full⟩
   ·rw [updK_ne e] at hkk
    exact H.full j hj g' kk' hkk
  ·intro h hh' hn
   have h1:=P.n0 h
   rw [nmem_cnt hn] at h1
   have h3:h∉nodesT (k+1) (.nd g kk):=fun hm=>by
    have:=mem_cnt hm
    rw [hk] at h1
    omega
   obtain ⟨h4,h5⟩:=D.keep h (hkR h hh') h3
   refine ⟨h4,fun hm=>?_⟩
   have h2:=P.n1 (.nd g r.2.1) h
   have:=nmem_cnt h5
   have:=mem_cnt hm
   omega
  ·intro hp h hm
   have h1:=P.n0 h
   have h2:=P.n1 (.nd g r.2.1) h
   rw [hk] at h1
   refine cnt_mem ?_
   have h3:=mem_cnt hm
   by_cases h4:h∈nodesT (k+1) (.nd g kk)
   ·have:=mem_cnt (D.more hp h h4)
    omega
   ·have:=nmem_cnt h4
    omega
  ·intro he
   rw [D.err he,← hk,updK_same]
  ·intro hp j hj hno
   by_cases e:j=i
   ·subst e
    rw [updK_at] at hno
    cases hno
   ·rwa [updK_ne e] at hno
  ·intro _ _
   exact bareK_not hi (by rw [updK_at];exact fun e=>by cases e)
  ·exact D.sum
  ·exact D.four
  ·intro hg h0 hr
   exact D.room hg h0 (by omega)
end
section
variable {v:Vis}{rd:Int→Int→List UInt8 × Int}{A:List Nat}{B:Int→List Nat}{Pr:CC→Prop}{Pc:Tr→Prop}{ix:Nat→Nat}
theorem DP.stay (L:LeafOk v rd A B Pr Pc){s:CC}{k f:Nat}{kids:Nat→Tr}{R:List Nat}(H:TI rd s k f kids (A++R)){e:Int}(he:e≠0)(h4:v.grow=true→e=4∧(s.sl=[]→freeN s.fs=0)∧1≤k):DP v rd A B s k f kids R s kids e:=
 ⟨by rw [L.back e he];exact H,fun g _ hn=>⟨SameBs.refl,hn⟩,fun _ g hg=>hg,rfl,rfl,List.Sublist.refl _,fun _=>rfl,fun _=>rfl,fun _ j _ h=>h,fun _ h=>absurd h he,fun _ _=>rfl,fun hg _=>(h4 hg).1,fun hg h0 hr=>by
  have:=(h4 hg).2.1 h0
  have:=(h4 hg).2.2
  omega⟩
theorem downT_gone (L:LeafOk v rd A B Pr Pc)(hix:∀ j,ix j<512)(k:Nat)(s:CC)(f:Nat)(kids:Nat→Tr)(R:List Nat)(hk:kids (ix (k+1))=.no)(_hp:Pr s)(hc0:Pc (lookT ix (k+1) kids))(H:TI rd s (k+1) f kids (A++R))
 (IH:∀ s f kids R,Pr s→Pc (lookT ix k kids)→TI rd s k f kids (A++R)→DPr v rd A B s k f kids R (downT v ix k s f kids)):DPr v rd A B s (k+1) f kids R (downT v ix (k+1) s f kids):=by
 have hi:=hix (k+1)
 rw [lookT_no hk] at hc0
 cases hg:v.grow with
 | false=>
  rw [downT_stay hk hg]
  exact DP.stay L H (e:=6) (by decide) (fun h=>by rw [hg] at h;cases h)
 | true=>
  rcases takC_case H.good with ⟨m,s1,ht,T⟩|⟨ht,h0⟩
  ·rw [downT_took hk hg ht]
   obtain ⟨Ln,Ll,P⟩:=parts (k+1) f kids (ix (k+1)) hi
   generalize ix (k+1)=i at hk hi P ⊢
   have hnd:=fun a=>cnt_nodup H.nd a
   have hsum:=takC_sum H.good ht
   have hm0:=T.held
   have hl1:s1.fs.length=s.fs.length:=by rw [T.fs,List.length_set]
   have hbs1:∀ h,h≠m→SameBs s.fs s1.fs h:=fun h hne h1 h2=>by
    have:s1.fs[h]=(s.fs.set m one0)[h]'(by rw [List.length_set];exact h1):=by simp only [T.fs]
    rw [this,List.getElem_set_ne (fun e=>hne e.symm)]
   have hmA:m∉A++(f::(Ln++(Ll++R))):=fun hm=>by
    have h1:=P.n0 m
    have h2:=P.l0 m
    have h3:=mem_cnt hm
    rw [hk,nodesT_no] at h1
    rw [hk,lfT_no] at h2
    simp only [List.count_append,hx_count,List.count_cons,List.count_nil] at h1 h2 h3 hm0
    omega
   have C:TI rd s1 k m noK (A++(f::(Ln++(Ll++R)))):=by
    refine ⟨(T.good H.good).perm (perm_of fun a=>?_),by rw [nodesT_bare bare_noK];exact nd_one m,fun x hx' h hh'=>?_,fun j hj=>⟨?_,holds_no _ _⟩,?_⟩
    ·have h1:=P.n0 a
     have h2:=P.l0 a
     rw [hk,nodesT_no] at h1
     rw [hk,lfT_no] at h2
     rw [List.count_append,hx_count,nodesT_bare bare_noK,lfT_bare bare_noK]
     simp only [List.count_append,hx_count,List.count_cons,List.count_nil] at h1 h2 ⊢
     omega
    ·rw [nodesT_bare bare_noK,List.mem_singleton] at hh'
     rw [hh']
     exact T.no x hx'
    ·have:=wdAt_zero (fs:=s.fs) T.lt hj
     rw [← T.fs] at this
     exact this
    ·cases k with
     | zero=>trivial
     | succ k=>exact fun j hj g' kk' hkk=>by cases hkk
   have D:=IH s1 m noK (f::(Ln++(Ll++R))) (L.pre hg s1) (by rw [lookT_noK];exact hc0) C
   generalize downT v ix k s1 m noK=r at D ⊢
   have hfR:∀ h,h∈f::Ln→h∈A++(f::(Ln++(Ll++R))):=fun h hh'=>by
    rcases List.mem_cons.1 hh' with rfl|hh'
    ·exact List.mem_append_right _ (List.mem_cons_self ..)
    ·exact List.mem_append_right _ (List.mem_cons_of_mem _ (List.mem_append_left _ hh'))
   have hmN:∀ h,h∈A++(f::(Ln++(Ll++R)))→h≠m∧h∉nodesT (k+1) (.nd m noK):=fun h hh'=>by
    have:h≠m:=fun e=>hmA (e▸hh')
    exact ⟨this,by rw [nodesT_bare bare_noK,List.mem_singleton];exact this⟩
   have hfB:=fun h hh'=>D.keep h hh' (hmN h hh').2
   have hbs2:∀ h,h∈A++(f::(Ln++(Ll++R)))→SameBs s.fs r.1.fs h:=fun h hh'=>(hbs1 h (hmN h hh').1).trans (hfB h hh').1 hl1
   have hlr:r.1.fs.length=s.fs.length:=by rw [D.len,hl1]
   have hoth:∀ j,j<512→j≠i→Holds r.1.fs (k+1) (kids j):=fun j hj hne=>(H.holds j hj).2.mono hlr fun h hh'=>hbs2 h (hfR h (List.mem_cons_of_mem _ (P.rest j hj hne h hh')))
   have hwoth:∀ j,j<512→WdAt r.1.fs f j (wdT (kids j)):=fun j hj=>wdAt_of_bs (H.holds j hj).1 hlr (hbs2 f (hfR f (List.mem_cons_self ..)))
   have hkR:∀ h∈A++R,h∈A++(f::(Ln++(Ll++R))):=fun h hh'=>by
    rcases List.mem_append.1 hh' with hh'|hh'
    ·exact List.mem_append_left _ hh'
    ·exact List.mem_append_right _ (List.mem_cons_of_mem _ (List.mem_append_right _ (List.mem_append_right _ hh')))
   have hsl:r.1.sl.Sublist s.sl:=D.sub.trans T.sub
   have htn:r.1.tn=s.tn:=by rw [D.tn,T.tn]
   have hpf:v.prune=false:=L.excl hg
   by_cases he:r.2.2=0
   ·rw [if_pos he]
    unfold DPr
    dsimp only
    have hfm:f∈hxT k m r.2.1++(B r.2.2++(f::(Ln++(Ll++R)))):=List.mem_append_right _ (List.mem_append_right _ (List.mem_cons_self ..))
    have hoff:∀ x∈r.1.sl,x.f≠(f:Int):=fun x hx'=>H.off x (hsl.subset hx') f (List.mem_cons_self ..)
    obtain ⟨hf2,hf3⟩:=D.ti.good.at_ hfm
    have hbs:∀ h,h≠f→SameBs r.1.fs (layC r.1 f i (m*4096+1)).fs h:=fun h hne=>layS_other hne
    have hlen:(layC r.1 f i (m*4096+1)).fs.length=r.1.fs.length:=layS_len
    have hfnew:∀ a,a∈f::Ln→a∉nodesT (k+1) (.nd m r.2.1):=fun a ha=>(hfB a (hfR a ha)).2
    refine ⟨⟨(D.ti.good.lay hfm hoff hi).perm (perm_of fun a=>?_),nodup_cnt fun a=>?_,fun x hx' h hh'=>?_,fun j hj=>?_,?_⟩,?_,?_,by rw [hlen,hlr],htn,hsl,?_,?_,?_,?_,?_,?_,?_⟩
    ·have h1:=P.n1 (.nd m r.2.1) a
     have h2:=P.l1 (.nd m r.2.1) a
     rw [he]
     simp only [List.count_append,hx_count,List.count_cons,List.count_nil] at h1 h2 ⊢
     omega
    ·have h1:=P.n0 a
     have h2:=P.n1 (.nd m r.2.1) a
     have h3:=hnd a
     have h4:=cnt_nodup D.ti.nd a
     by_cases hm:a∈f::Ln
     ·have:=nmem_cnt (hfnew a hm)
      omega
     ·have h5:=nmem_cnt hm
      rw [List.count_cons] at h5
      simp only [List.count_cons,List.count_nil] at h2 ⊢
      omega
    ·have h2:=P.n1 (.nd m r.2.1) h
     by_cases hm:h∈nodesT (k+1) (.nd m r.2.1)
     ·exact D.ti.off x hx' h hm
     ·refine H.off x (hsl.subset hx') h (cnt_mem ?_)
      have h1:=P.n0 h
      have h3:=nmem_cnt hm
      have:=mem_cnt hh'
      omega
    ·by_cases e:j=i
     ·subst e
      simp only [updK_at]
      refine ⟨layS_wd D.ti.good.lens hf2 hf3 hi hj (fun h=>absurd rfl h) (fun _=>rfl),D.ti.holds.mono hlen fun h hh'=>hbs h ?_⟩
      rintro rfl
      exact hfnew h (List.mem_cons_self ..) hh'
     ·simp only [updK_ne e]
      refine ⟨layS_wd D.ti.good.lens hf2 hf3 hi hj (fun _=>hwoth j hj) (fun h=>absurd h e),(hoth j hj e).mono hlen fun h hh'=>hbs h ?_⟩
      rintro rfl
      have h1:=P.n0 h
      have h2:=hnd h
      have h3:=mem_cnt (P.rest j hj e h hh')
      simp only [List.count_cons,List.count_nil] at h1
      simp at h1
      omega
    ·intro j hj g' kk' hkk
     by_cases e:j=i
     ·subst e
      rw [updK_at] at hkk
      cases hkk
      exact ⟨D.solid hg he,D.ti.full⟩
     ·rw [updK_ne e] at hkk
      exact H.full j hj g' kk' hkk
    ·intro h hh' hn
     have h1:=P.n0 h
     rw [nmem_cnt hn] at h1
     have hne:h≠f:=fun e=>hn (e▸List.mem_cons_self ..)
     refine ⟨(hbs2 h (hkR h hh')).trans (hbs h hne) hlr,fun hm=>?_⟩
     have h2:=P.n1 (.nd m r.2.1) h
     have:=nmem_cnt (hfB h (hkR h hh')).2
     have:=mem_cnt hm
     omega
    ·intro _ h hm
     have h1:=P.n0 h
     have h2:=P.n1 (.nd m r.2.1) h
     rw [hk,nodesT_no] at h1
     have h3:=mem_cnt hm
     simp only [List.count_nil] at h1
     exact cnt_mem (by omega)
    ·intro hgf;rw [hg] at hgf;cases hgf
    ·intro hne;exact absurd rfl hne
    ·intro _ j hj hno
     by_cases e:j=i
     ·subst e
      rw [updK_at] at hno
      cases hno
     ·rwa [updK_ne e] at hno
    ·intro _ _
     exact bareK_not hi (by rw [updK_at];exact fun e=>by cases e)
    ·intro _ hne;exact absurd rfl hne
    ·intro _ hne;exact absurd rfl hne
    ·intro _ _ _;rfl
   ·rw [if_neg he]
    unfold DPr
    dsimp only
    have hkk:=D.err he
    have G1:Good rd r.1 (m::(B r.2.2++(f::(Ln++(Ll++R))))):=D.ti.good.perm (perm_of fun a=>by
     rw [hkk]
     simp only [List.count_append,hx_count,List.count_cons,nodesT_bare bare_noK,lfT_bare bare_noK,List.count_nil]
     omega)
    have G2:Good rd (dnC r.1 m) (B r.2.2++(f::(Ln++(Ll++R)))):=G1.down
    have hbs:∀ h,SameBs r.1.fs (dnC r.1 m).fs h:=fun h=>dn_bs
    have hm3:m<r.1.fs.length:=G1.hold m (List.mem_cons_self ..)
    have hm1:r.1.fs[m].cnt=1:=by
     rw [G1.cnt m hm3,List.count_cons_self]
     have h5:(B r.2.2++(f::(Ln++(Ll++R)))).count m=0:=nmem_cnt fun hh=>hmA (by rw [L.back _ he] at hh;exact hh)
     have h6:r.1.sl.countP (fun x=>decide (x.f=(m:Int)))=0:=by
      rw [List.countP_eq_zero]
      intro x hx'
      simpa using T.no x (D.sub.subset hx')
     omega
    have hfr:=dn_free hm3 hm1
    have hlen:(dnC r.1 m).fs.length=s.fs.length:=by rw [dn_len,hlr]
    refine ⟨⟨G2.perm (perm_of fun a=>?_),H.nd,fun x hx'=>H.off x (hsl.subset hx'),fun j hj=>?_,H.full⟩,?_,fun _ h hm=>hm,hlen,htn,hsl,?_,fun _=>rfl,fun _ j _ h=>h,?_,?_,?_,?_⟩
    ·have h1:=P.n0 a
     have h2:=P.l0 a
     rw [hk,nodesT_no] at h1
     rw [hk,lfT_no] at h2
     simp only [List.count_append,hx_count,List.count_cons,List.count_nil] at h1 h2 ⊢
     omega
    ·refine ⟨wdAt_of_bs (hwoth j hj) dn_len dn_bs,?_⟩
     by_cases e:j=i
     ·subst e;rw [hk];exact holds_no _ _
     ·exact (hoth j hj e).mono dn_len fun h _=>hbs h
    ·intro h hh' hn
     exact ⟨(hbs2 h (hkR h hh')).trans (hbs h) hlr,hn⟩
    ·intro hgf;rw [hg] at hgf;cases hgf
    ·intro _ h;exact absurd h he
    ·intro _ _
     have:=D.sum hg he
     show freeN (dnC r.1 m).fs+r.1.sl.length=_
     rw [hfr]
     omega
    ·intro _ _;exact D.four hg he
    ·intro _ h0 hr
     exfalso
     have h1:s1.sl=[]:=List.sublist_nil.1 (h0▸T.sub)
     have h2:=D.room hg h1 (by rw [h0,h1] at hsum;simp at hsum;omega)
     exact he h2
  ·rw [downT_none hk hg ht (by decide)]
   exact DP.stay L H (e:=4) (by decide) (fun _=>⟨rfl,fun h=>by omega,by omega⟩)
theorem downT_ok (L:LeafOk v rd A B Pr Pc)(hix:∀ j,ix j<512):∀ (k:Nat) (s:CC) (f:Nat) (kids:Nat→Tr) (R:List Nat),Pr s→Pc (lookT ix k kids)→TI rd s k f kids (A++R)→DPr v rd A B s k f kids R (downT v ix k s f kids)
 | 0,s,f,kids,R,hp,hc,H=>downT_zero L hix s f kids R hp hc H
 | k+1,s,f,kids,R,hp,hc,H=>by
  cases hk:kids (ix (k+1)) with
  | no=>exact downT_gone L hix k s f kids R hk hp hc H (downT_ok L hix k)
  | nd g kk=>exact downT_there L hix k s f g kids kk R hk hp hc H (downT_ok L hix k)
  | lf a b c=>
   have:=(H.holds (ix (k+1)) (hix _)).2
   rw [hk] at this
   exact this.elim
end
end Go.Proofs.YtdjpjfdeeelijaaGreatDoor
