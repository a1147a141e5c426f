/- TablePlays, plain: the document's Unmap does what Unmap does. TablePlays, plain: Unmap, whole. TablePlays, plain: Unmap, whole: the end. TablePlays, plain: Set, Find and Free, as the document does them. TablePlays, plain: Free and Nodes, as the document does them. -/
import Derived.Test.YtdjpjfdeeelijaaGreatDoorW07
namespace Go.Proofs.YtdjpjfdeeelijaaGreatDoor
open Go.RowKit Go.Sort
theorem un_none {ix:Nat→Nat}(hix:∀ j,ix j<512):∀ (k:Nat) (s:CC) (f:Nat) (kids:Nat→Tr),Shp (k+1) (.nd f kids)→FullT k kids→lookT ix k kids=.no→downT unmapV ix k s f kids=(s,kids,6)
 | 0,s,f,kids,_,_,hl=>by
  have hl:kids (ix 0)=.no:=hl
  rw [downT,hl]
  show (s,updK kids (ix 0) .no,(6:Int))=_
  rw [← hl,updK_same]
 | k+1,s,f,kids,H,HF,hl=>by
  have hh:=H (ix (k+1)) (hix _)
  cases hk:kids (ix (k+1)) with
  | no=>exact downT_stay hk rfl
  | lf a p b=>rw [hk] at hh;exact hh.elim
  | nd g kk=>
   rw [hk] at hh
   rw [lookT_nd hk] at hl
   obtain ⟨h1,h2⟩:=HF _ (hix _) g kk hk
   rw [downT_nd hk,un_none hix k s g kk hh h2 hl,if_neg (by rw [h1];simp)]
   simp only
   rw [← hk,updK_same]
theorem div_part {x y j k:Nat}(hjk:j≤k)(h:x/2 ^ (12+9*j)=y/2 ^ (12+9*j)):x/2 ^ (12+9*k)=y/2 ^ (12+9*k):=by
 have e:(2:Nat) ^ (12+9*k)=2 ^ (12+9*j)*2 ^ (9*(k-j)):=by
  rw [← Nat.pow_add]
  congr 1
  omega
 rw [e,← Nat.div_div_eq_div_mul,← Nat.div_div_eq_div_mul,h]
theorem in_part {M c y:Nat}(h1:M*c≤y)(h2:y<M*c+M):y/M=c:=by
 have hM:0<M:=by omega
 obtain ⟨r,rfl⟩:=Nat.exists_eq_add_of_le h1
 rw [Nat.mul_add_div hM,Nat.div_eq_of_lt (by omega),Nat.add_zero]
/-- The leaves of a part are those of its node. -/
theorem part_mem (ad j:Nat)(y:LF)(g:Nat)(kk:Nat→Tr):∀ (k f:Nat) (kids:Nat→Tr),nodeIn (ixOf ad) j (k+1) (.nd f kids)=some (g,kk)→
 ((y∈leavesT (k+1) (2 ^ (12+9*(k+1))*(ad/2 ^ (12+9*(k+1)))) (.nd f kids)∧y.1/2 ^ (12+9*j)=ad/2 ^ (12+9*j))↔y∈leavesT j (2 ^ (12+9*j)*(ad/2 ^ (12+9*j))) (.nd g kk)):=by
 intro k
 induction k with
 | zero=>
  intro f kids h
  rw [nodeIn_nd] at h
  split at h
  ·rename_i e
   subst e
   obtain ⟨rfl,rfl⟩:=Prod.mk.inj (Option.some.inj h)
   exact ⟨fun h=>h.1,fun h=>⟨h,by
    obtain ⟨h1,h2,_⟩:=leaves_in (0+1) _ _ y h
    exact in_part h1 h2⟩⟩
  ·cases h
 | succ k ih=>
  intro f kids h
  rw [nodeIn_nd] at h
  split at h
  ·rename_i e
   subst e
   obtain ⟨rfl,rfl⟩:=Prod.mk.inj (Option.some.inj h)
   exact ⟨fun h=>h.1,fun h=>⟨h,by
    obtain ⟨h1,h2,_⟩:=leaves_in (k+1+1) _ _ y h
    exact in_part h1 h2⟩⟩
  ·have hj:j≤k+1:=by
    cases hk:kids (ixOf ad (k+1)) with
    | no=>rw [hk,nodeIn_no] at h;cases h
    | lf a p b=>rw [hk] at h;cases h
    | nd g' k'=>
     rw [hk] at h
     have hlt:∀ (m:Nat) (tr:Tr),nodeIn (ixOf ad) j m tr=some (g,kk)→j≤m:=by
      intro m
      induction m with
      | zero=>intro tr h;cases h
      | succ m ihm=>
       intro tr h
       cases tr with
       | no=>cases h
       | lf a p b=>cases h
       | nd f' K=>
        rw [nodeIn_nd] at h
        split at h
        ·omega
        ·have:=ihm _ h;omega
     exact hlt _ _ h
   have hcd:ad/2 ^ (12+9*(k+1+1))*512+ixOf ad (k+1)=ad/2 ^ (12+9*(k+1)):=by
    unfold ixOf
    rw [pow_next (k+1),← Nat.div_div_eq_div_mul]
    omega
   have hcl:∀ i,2 ^ (12+9*(k+1+1))*(ad/2 ^ (12+9*(k+1+1)))+i*2 ^ (12+9*(k+1))=2 ^ (12+9*(k+1))*(ad/2 ^ (12+9*(k+1+1))*512+i):=fun i=>by
    generalize ad/2 ^ (12+9*(k+1+1))=c
    rw [pow_next (k+1)]
    generalize 2 ^ (12+9*(k+1))=M
    rw [Nat.mul_add,Nat.mul_comm i M,Nat.mul_comm c 512,Nat.mul_assoc]
   have step:(y∈leavesT (k+1+1) (2 ^ (12+9*(k+1+1))*(ad/2 ^ (12+9*(k+1+1)))) (.nd f kids)∧y.1/2 ^ (12+9*j)=ad/2 ^ (12+9*j))↔(y∈leavesT (k+1) (2 ^ (12+9*(k+1))*(ad/2 ^ (12+9*(k+1)))) (kids (ixOf ad (k+1)))∧y.1/2 ^ (12+9*j)=ad/2 ^ (12+9*j)):=by
    rw [leavesT_nd,List.mem_flatMap]
    constructor
    ·rintro ⟨⟨i,hi,hy⟩,hp⟩
     have hi:=List.mem_range.1 hi
     rw [hcl] at hy
     obtain ⟨h1,h2,_⟩:=leaves_in (k+1) _ _ y hy
     have e1:=in_part h1 h2
     rw [div_part hj hp] at e1
     have:i=ixOf ad (k+1):=by omega
     subst this
     rw [hcd] at hy
     exact ⟨hy,hp⟩
    ·rintro ⟨hy,hp⟩
     refine ⟨⟨ixOf ad (k+1),List.mem_range.2 (ixOf_lt ad _),?_⟩,hp⟩
     rw [hcl,hcd]
     exact hy
   rw [step]
   cases hk:kids (ixOf ad (k+1)) with
   | no=>rw [hk,nodeIn_no] at h;cases h
   | lf a p b=>rw [hk] at h;cases h
   | nd g' k'=>
    rw [hk] at h
    exact ih g' k' h
theorem rise_nodup {l:List LF}(h:l.Pairwise fun x y=>x.1<y.1):l.Nodup:=h.imp fun {x y} hlt e=>by
 rw [e] at hlt
 omega
/-- What lies below a level's node on the way, without the leaf. -/
theorem un_below {ix:Nat→Nat}{a p:Nat}{b:Bool}(j:Nat):∀ (k f:Nat) (kids:Nat→Tr),lookT ix k kids=.lf a p b→1≤j→j≤k+1→∀ g kk,nodeIn ix j (k+1) (.nd f kids)=some (g,kk)→lookT ix (j-1) kk=.lf a p b
 | 0,f,kids,hl,h1,h2,g,kk,h=>by
  rw [nodeIn_nd,if_pos (by omega)] at h
  obtain ⟨rfl,rfl⟩:=Prod.mk.inj (Option.some.inj h)
  rw [show j-1=0 by omega]
  exact hl
 | k+1,f,kids,hl,h1,h2,g,kk,h=>by
  rw [nodeIn_nd] at h
  split at h
  ·rename_i e
   obtain ⟨rfl,rfl⟩:=Prod.mk.inj (Option.some.inj h)
   rw [show j-1=k+1 by omega]
   exact hl
  ·cases hk:kids (ix (k+1)) with
   | no=>rw [lookT_no hk] at hl;cases hl
   | lf a' p' b'=>rw [lookT,hk] at hl;cases hl
   | nd g' k'=>
    rw [hk] at h
    rw [lookT_nd hk] at hl
    exact un_below j k g' k' hl h1 (by omega) g kk h
theorem un_le (ix:Nat→Nat):∀ (k:Nat) (kids:Nat→Tr),(unK ix k kids).2≤k
 | 0,_=>Nat.le_refl _
 | k+1,kids=>by
  cases hk:kids (ix (k+1)) with
  | no=>rw [unK,hk];exact Nat.zero_le _
  | lf a p b=>rw [unK,hk];exact Nat.zero_le _
  | nd g kk=>
   by_cases hb:bareK (unK ix k kk).1=true
   ·rw [unK_bare hk hb];exact Nat.le_refl _
   ·rw [unK_stay hk hb];exact Nat.le_trans (un_le ix k kk) (Nat.le_succ _)
/-- How many levels go, told by what is bare. -/
theorem un_count {ix:Nat→Nat}(hix:∀ j,ix j<512){a p:Nat}{b:Bool}(j:Nat):∀ (k f:Nat) (kids:Nat→Tr),lookT ix k kids=.lf a p b→1≤j→j≤k→∀ g kk,nodeIn ix j (k+1) (.nd f kids)=some (g,kk)→(bareK (unK ix (j-1) kk).1=true↔j≤(unK ix k kids).2)
 | 0,f,kids,hl,h1,h2,g,kk,h=>by omega
 | k+1,f,kids,hl,h1,h2,g,kk,h=>by
  rw [nodeIn_nd,if_neg (by omega)] at h
  cases hk:kids (ix (k+1)) with
  | no=>rw [lookT_no hk] at hl;cases hl
  | lf a' p' b'=>rw [lookT,hk] at hl;cases hl
  | nd g' k'=>
   rw [hk] at h
   rw [lookT_nd hk] at hl
   have hle:=un_le ix k k'
   by_cases hj:j=k+1
   ·subst hj
    rw [nodeIn_nd,if_pos rfl] at h
    obtain ⟨rfl,rfl⟩:=Prod.mk.inj (Option.some.inj h)
    rw [show k+1-1=k by omega]
    by_cases hb:bareK (unK ix k k').1=true
    ·rw [unK_bare hk hb]
     exact ⟨fun _=>Nat.le_refl _,fun _=>hb⟩
    ·rw [unK_stay hk hb]
     exact ⟨fun h=>absurd h hb,fun h=>by simp only at h;omega⟩
   ·have ih:=un_count hix j k g' k' hl h1 (by omega) g kk h
    by_cases hb:bareK (unK ix k k').1=true
    ·rw [unK_bare hk hb]
     rw [un_all hix k k' hl hb] at ih
     exact ⟨fun _=>by simp only;omega,fun _=>ih.2 (by omega)⟩
    ·rw [unK_stay hk hb]
     exact ih
theorem layS_ne {fs:List FR}{f g i x:Nat}{r:FR}(h:f≠g):layS (fs.set g r) f i x=(layS fs f i x).set g r:=by
 have e:cntF (fs.set g r) (f:Int)=cntF fs (f:Int):=by
  unfold cntF
  rw [List.length_set,Int.toNat_natCast,List.getD_eq_getElem?_getD,List.getD_eq_getElem?_getD,List.getElem?_set_ne (Ne.symm h)]
 have e2:∀ off n,loadE (fs.set g r) (f:Int) off n=loadE fs (f:Int) off n:=fun off n=>by
  unfold loadE takE
  rw [e]
 unfold layS storeS
 rw [e2]
 split
 ·rw [Int.toNat_natCast,List.getD_eq_getElem?_getD,List.getD_eq_getElem?_getD,List.getElem?_set_ne (Ne.symm h),List.set_comm _ _ (Ne.symm h)]
 ·rfl
theorem lay_dn {s:CC}{f g i x:Nat}(h:f≠g):layC (dnC s g) f i x=dnC (layC s f i x) g:=by
 have e:layS (downS s.fs (g:Int)) f i x=downS (layS s.fs f i x) (g:Int):=by
  rcases layS_two (fs:=s.fs) (f:=f) (i:=i) (x:=x) with ⟨bs,hf,e1,_⟩|e1
  ·rw [e1,downS_set (Ne.symm h)]
   rcases downS_two s.fs g with e2|⟨r,e2⟩
   ·rw [e2,e1]
   ·rw [e2,layS_ne h,e1,List.set_comm _ _ h]
  ·rw [e1]
   rcases downS_two s.fs g with e2|⟨r,e2⟩
   ·rw [e2,e1]
   ·rw [e2,layS_ne h,e1]
 show ({ s with fs:=_ }:CC)={ s with fs:=_ }
 simp only [dnC,layC]
 rw [e]
theorem lay_dn_self {s:CC}{f i x:Nat}(hf:f<s.fs.length)(h2:2≤s.fs[f].cnt)(hi:i<512):layC (dnC s f) f i x=dnC (layC s f i x) f:=by
 have c1:cntF s.fs (f:Int)=s.fs[f].cnt:=cntF_at hf
 have e1:downS s.fs (f:Int)=s.fs.set f ⟨s.fs[f].bs,s.fs[f].cnt-1⟩:=by
  unfold downS
  rw [c1,if_neg (by omega),Int.toNat_natCast,getF_at _ _ _ hf]
 have e2:=layS_is (fs:=s.fs) (i:=i) x hf (by omega) hi
 have hf2:f<(s.fs.set f ⟨s.fs[f].bs,s.fs[f].cnt-1⟩).length:=by rw [List.length_set];exact hf
 have hf3:f<(s.fs.set f ⟨splice s.fs[f].bs (8*i) (le8 x),s.fs[f].cnt⟩).length:=by rw [List.length_set];exact hf
 have e:layS (downS s.fs (f:Int)) f i x=downS (layS s.fs f i x) (f:Int):=by
  rw [e1,e2,layS_is (i:=i) x hf2 (by rw [List.getElem_set_self];show s.fs[f].cnt-1≠0;omega) hi]
  unfold downS
  rw [cntF_at hf3,List.getElem_set_self,List.getElem_set_self]
  simp only
  rw [if_neg (by omega),Int.toNat_natCast,getF_at _ _ _ hf3,List.getElem_set_self,List.set_set,List.set_set]
 show ({ s with fs:=_ }:CC)={ s with fs:=_ }
 simp only [dnC,layC]
 rw [e]
theorem nodeIn_mem {ix:Nat→Nat}(hix:∀ j,ix j<512){j g:Nat}{kk:Nat→Tr}:∀ (k:Nat) (tr:Tr),nodeIn ix j k tr=some (g,kk)→g∈nodesT k tr
 | 0,_,h=>by cases h
 | k+1,.no,h=>by cases h
 | k+1,.lf _ _ _,h=>by cases h
 | k+1,.nd f kids,h=>by
  rw [nodeIn_nd] at h
  split at h
  ·obtain ⟨rfl,rfl⟩:=Prod.mk.inj (Option.some.inj h)
   exact List.mem_cons_self ..
  ·exact List.mem_cons_of_mem _ (List.mem_flatMap.2 ⟨ix k,List.mem_range.2 (hix k),nodeIn_mem hix k _ h⟩)
theorem path_ne {ix:Nat→Nat}(hix:∀ j,ix j<512){i j g g':Nat}{kk kk':Nat→Tr}(hij:i<j):∀ (k:Nat) (tr:Tr),(nodesT k tr).Nodup→nodeIn ix i k tr=some (g,kk)→nodeIn ix j k tr=some (g',kk')→g≠g'
 | 0,_,_,h,_=>by cases h
 | k+1,.no,_,h,_=>by cases h
 | k+1,.lf _ _ _,_,h,_=>by cases h
 | k+1,.nd f kids,hn,h,h'=>by
  have hn':=List.nodup_cons.1 hn
  rw [nodeIn_nd] at h h'
  split at h'
  ·rw [if_neg (by omega)] at h
   obtain ⟨rfl,rfl⟩:=Prod.mk.inj (Option.some.inj h')
   intro e
   subst e
   exact hn'.1 (List.mem_flatMap.2 ⟨ix k,List.mem_range.2 (hix k),nodeIn_mem hix k _ h⟩)
  ·split at h
   ·rename_i h1 h2
    exfalso
    have hlt:∀ (m:Nat) (tr:Tr),nodeIn ix j m tr=some (g',kk')→j≤m:=by
     intro m
     induction m with
     | zero=>intro tr h;cases h
     | succ m ihm=>
      intro tr h
      cases tr with
      | no=>cases h
      | lf a p b=>cases h
      | nd f' K=>
       rw [nodeIn_nd] at h
       split at h
       ·omega
       ·have:=ihm _ h;omega
    have:=hlt _ _ h'
    omega
   ·exact path_ne hix hij k _ ((List.pairwise_flatMap.1 hn'.2).1 (ix k) (List.mem_range.2 (hix k))) h h'
theorem nodeF_of_mem {root ad j g:Nat}{M:List ND9}(hp:M.Pairwise fun x y=>x.lv≠y.lv∨x.pt≠y.pt)(h:(⟨j,ad/2 ^ (12+9*j),g⟩:ND9)∈M)(hj:j≠4):nodeF root M ad j=some g:=by
 unfold nodeF
 rw [if_neg hj]
 cases hf:M.find? fun x=>decide (x.lv=j)&&decide (x.pt=ad/2 ^ (12+9*j)) with
 | none=>exact absurd (by simp) (List.find?_eq_none.1 hf _ h)
 | some x=>
  have hx:=List.mem_of_find?_eq_some hf
  have hk:=List.find?_some (p:=fun x:ND9=>decide (x.lv=j)&&decide (x.pt=ad/2 ^ (12+9*j))) hf
  rw [Bool.and_eq_true,decide_eq_true_eq,decide_eq_true_eq] at hk
  by_cases e:x=⟨j,ad/2 ^ (12+9*j),g⟩
  ·rw [e];rfl
  ·exfalso
   obtain ⟨m,hm,e1⟩:=List.getElem_of_mem hx
   obtain ⟨n,hn,e2⟩:=List.getElem_of_mem h
   have hpg:=List.pairwise_iff_getElem.1 hp
   rcases Nat.lt_trichotomy m n with hlt|rfl|hlt
   ·have:=hpg m n hm hn hlt
    rw [e1,e2] at this
    rcases this with h9|h9
    ·exact h9 hk.1
    ·exact h9 hk.2
   ·exact e (e1.symm.trans e2)
   ·have:=hpg n m hn hm hlt
    rw [e1,e2] at this
    rcases this with h9|h9
    ·exact h9 hk.1.symm
    ·exact h9 hk.2.symm
/-- Is a leaf told in an address' part of a level? -/
def usedF (P:List LF)(ad lv:Nat):Bool:=P.any fun y=>decide (y.1/2 ^ (12+9*lv)=ad/2 ^ (12+9*lv))
/-- What the document's Unmap gives up, from below. -/
def pruF (root:Nat)(P:List LF)(ad:Nat):Nat→CC × List ND9 × Bool→CC × List ND9 × Bool
 | 0,r=>r
 | k+1,r=>if (pruF root P ad k r).2.2=false then pruF root P ad k r
  else if usedF P ad (k+1)=true then ((pruF root P ad k r).1,(pruF root P ad k r).2.1,false)
  else (dnC (layC (pruF root P ad k r).1 ((nodeF root (pruF root P ad k r).2.1 ad (k+2)).getD 0) (ixOf ad (k+1)) 0) ((nodeF root (pruF root P ad k r).2.1 ad (k+1)).getD 0),
   (pruF root P ad k r).2.1.filter (fun x=>decide (x.f≠(nodeF root (pruF root P ad k r).2.1 ad (k+1)).getD 0)),true)
section
variable {root ad a p:Nat}{b:Bool}{kids:Nat→Tr}{L:List ND9}{F:Nat→Nat}
theorem used_is (H:Shp 4 (.nd root kids))(HF:FullT 3 kids)(had:ad<281474976710656)(hl:lookT (ixOf ad) 3 kids=.lf a p b)(hF:∀ j,1≤j→j≤4→∃ kk,nodeIn (ixOf ad) j 4 (.nd root kids)=some (F j,kk)){j:Nat}(h1:1≤j)(h3:j≤3):
 usedF (allL root (unK (ixOf ad) 3 kids).1) ad j=true↔¬ j≤(unK (ixOf ad) 3 kids).2:=by
 obtain ⟨kk,hj⟩:=hF j h1 (by omega)
 have hix:∀ j,ixOf ad j<512:=fun j=>ixOf_lt ad j
 rw [← un_count hix j 3 root kids hl h1 h3 _ _ hj]
 have hlk:=un_below j 3 root kids hl h1 (by omega) _ _ hj
 obtain ⟨j',rfl⟩:∃ j',j=j'+1:=⟨j-1,by omega⟩
 rw [Nat.add_sub_cancel] at hlk ⊢
 have z4:(2:Nat) ^ (12+9*(3+1))*(ad/2 ^ (12+9*(3+1)))=0:=by rw [show (2:Nat) ^ (12+9*(3+1))=281474976710656 by rfl,Nat.div_eq_of_lt had]
 have hpm:=fun y=>part_mem ad (j'+1) y _ kk 3 root kids hj
 rw [z4] at hpm
 have hw:=(un_lists ad (a:=a) (p:=p) (b:=b) F 3 _ root kids hl hF rfl).2
 rw [z4] at hw
 have hFj:∀ i,1≤i→i≤j'+1→∃ k',nodeIn (ixOf ad) i (j'+1) (.nd (F (j'+1)) kk)=some ((nodeIn (ixOf ad) i (j'+1) (.nd (F (j'+1)) kk)).elim 0 (·.1),k'):=fun i hi1 hi2=>by
  obtain ⟨g,k',e⟩:=look_nodes j' (F (j'+1)) kk hlk i hi1 hi2
  rw [e]
  exact ⟨k',rfl⟩
 have hj2:=(un_lists ad (a:=a) (p:=p) (b:=b) (fun i=>(nodeIn (ixOf ad) i (j'+1) (.nd (F (j'+1)) kk)).elim 0 (·.1)) j' _ (F (j'+1)) kk hlk hFj rfl).2
 have hnd:=rise_nodup (all_rise root kids)
 have hnj:=hw.nodup_iff.1 hnd
 have hnj':=List.nodup_cons.1 hnj
 have hndj:(leavesT (j'+1) (2 ^ (12+9*(j'+1))*(ad/2 ^ (12+9*(j'+1)))) (.nd (F (j'+1)) kk)).Nodup:=rise_nodup (leaves_rise (j'+1) _ _)
 have hn2:=List.nodup_cons.1 (hj2.nodup_iff.1 hndj)
 unfold usedF
 rw [List.any_eq_true]
 constructor
 ·rintro ⟨y,hy,hp⟩ hb
  rw [decide_eq_true_eq] at hp
  have hy1:y∈leavesT (3+1) 0 (.nd root kids):=hw.mem_iff.2 (List.mem_cons_of_mem _ hy)
  have hy2:=(hpm y).1 ⟨hy1,hp⟩
  rcases List.mem_cons.1 (hj2.mem_iff.1 hy2) with e|h9
  ·exact hnj'.1 (e▸hy)
  ·rw [bare_leaves hb] at h9
   cases h9
 ·intro hb
  have hsub:Shp (j'+1) (.nd (F (j'+1)) kk)∧FullT j' kk:=by
   have key:∀ (k f:Nat) (K:Nat→Tr),Shp (k+1) (.nd f K)→FullT k K→nodeIn (ixOf ad) (j'+1) (k+1) (.nd f K)=some (F (j'+1),kk)→Shp (j'+1) (.nd (F (j'+1)) kk)∧FullT j' kk:=by
    intro k
    induction k with
    | zero=>
     intro f K H HF h
     rw [nodeIn_nd] at h
     split at h
     ·rename_i e
      obtain rfl:j'=0:=by omega
      obtain ⟨rfl,rfl⟩:=Prod.mk.inj (Option.some.inj h)
      exact ⟨H,HF⟩
     ·cases h
    | succ k ih=>
     intro f K H HF h
     rw [nodeIn_nd] at h
     split at h
     ·rename_i e
      obtain rfl:j'=k+1:=by omega
      obtain ⟨rfl,rfl⟩:=Prod.mk.inj (Option.some.inj h)
      exact ⟨H,HF⟩
     ·have hh:=H (ixOf ad (k+1)) (hix _)
      cases hk:K (ixOf ad (k+1)) with
      | no=>rw [hk,nodeIn_no] at h;cases h
      | lf a p b=>rw [hk] at h;cases h
      | nd g' k'=>
       rw [hk] at h hh
       exact ih g' k' hh (HF _ (hix _) g' k' hk).2 h
   exact key 3 root kids H HF hj
  obtain ⟨hs2,hf2⟩:=un_full hix j' (F (j'+1)) kk hsub.1 hsub.2 hlk
  have hne:=full_leaves j' (2 ^ (12+9*(j'+1))*(ad/2 ^ (12+9*(j'+1)))) (F (j'+1)) _ hs2 hf2 (by simpa using hb)
  obtain ⟨y,hy⟩:=List.exists_mem_of_ne_nil _ hne
  have hy2:=hj2.mem_iff.2 (List.mem_cons_of_mem _ hy)
  obtain ⟨hy3,hp⟩:=(hpm y).2 hy2
  rcases List.mem_cons.1 (hw.mem_iff.1 hy3) with e|h9
  ·exact absurd (e▸hy) hn2.1
  ·exact ⟨y,h9,by rw [decide_eq_true_eq];exact hp⟩
end
abbrev goneN (ad:Nat)(F:Nat→Nat)(k m:Nat):List ND9:=(List.range (m-k)).map fun i=>⟨k+i+1,ad/2 ^ (12+9*(k+i+1)),F (k+i+1)⟩
theorem goneN_step (ad:Nat)(F:Nat→Nat){k m:Nat}(h:k<m):goneN ad F k m=⟨k+1,ad/2 ^ (12+9*(k+1)),F (k+1)⟩::goneN ad F (k+1) m:=by
 unfold goneN
 rw [show m-k=(m-(k+1))+1 by omega,List.range_succ_eq_map,List.map_cons,List.map_map]
 refine congrArg (List.cons _) (List.map_congr_left fun i _=>?_)
 show (⟨k+(i+1)+1,ad/2 ^ (12+9*(k+(i+1)+1)),F (k+(i+1)+1)⟩:ND9)=⟨k+1+i+1,ad/2 ^ (12+9*(k+1+i+1)),F (k+1+i+1)⟩
 rw [show k+(i+1)+1=k+1+i+1 by omega]
theorem goneN_none (ad:Nat)(F:Nat→Nat)(m:Nat):goneN ad F m m=[]:=by
 unfold goneN
 rw [Nat.sub_self]
 rfl
/-- The document's nodes, when k levels have gone. -/
structure Gone9 (L:List ND9)(F:Nat→Nat)(ad k m:Nat)(kids':Nat→Tr)(M:List ND9):Prop where
 sub:M.Sublist L
 mem:∀ x∈L,(∀ i,1≤i→i≤k→x.f≠F i)→x∈M
 perm:M.Perm (goneN ad F k m++prR kids')
section
variable {root ad a p:Nat}{b:Bool}{kids:Nat→Tr}{L:List ND9}{F:Nat→Nat}
set_option maxRecDepth 100000 in
theorem pru_is (H:Shp 4 (.nd root kids))(HF:FullT 3 kids)(hnd:(nodesT 4 (.nd root kids)).Nodup)(RL:L.Perm (prR kids))(had:ad<281474976710656)(hl:lookT (ixOf ad) 3 kids=.lf a p b)(hF:∀ j,1≤j→j≤4→∃ kk,nodeIn (ixOf ad) j 4 (.nd root kids)=some (F j,kk))(s0:CC):
 ∀ k,k≤3→(k≤(unK (ixOf ad) 3 kids).2→(pruF root (allL root (unK (ixOf ad) 3 kids).1) ad k (s0,L,true)).1=upM F (ixOf ad) s0 k∧(pruF root (allL root (unK (ixOf ad) 3 kids).1) ad k (s0,L,true)).2.2=true∧Gone9 L F ad k (unK (ixOf ad) 3 kids).2 (unK (ixOf ad) 3 kids).1 (pruF root (allL root (unK (ixOf ad) 3 kids).1) ad k (s0,L,true)).2.1)∧
  ((unK (ixOf ad) 3 kids).2<k→(pruF root (allL root (unK (ixOf ad) 3 kids).1) ad k (s0,L,true)).1=upM F (ixOf ad) s0 (unK (ixOf ad) 3 kids).2∧(pruF root (allL root (unK (ixOf ad) 3 kids).1) ad k (s0,L,true)).2.2=false∧(pruF root (allL root (unK (ixOf ad) 3 kids).1) ad k (s0,L,true)).2.1.Perm (prR (unK (ixOf ad) 3 kids).1)):=by
 have hix:∀ j,ixOf ad j<512:=fun j=>ixOf_lt ad j
 have hap:L.Pairwise fun x y=>x.lv≠y.lv∨x.pt≠y.pt:=(RL.pairwise_iff (R:=fun x y:ND9=>x.lv≠y.lv∨x.pt≠y.pt) (fun {x y} h=>h.imp Ne.symm Ne.symm)).2 (prR_apart kids)
 have hfn:(L.map (·.f)).Nodup:=by
  rw [prR_f] at hnd
  exact ((RL.map (·.f)).nodup_iff).2 (List.nodup_cons.1 hnd).2
 have hun:=(un_lists ad (a:=a) (p:=p) (b:=b) F 3 0 root kids hl hF (by rw [show (2:Nat) ^ (12+9*(3+1))=281474976710656 by rfl];exact Nat.div_eq_of_lt had)).1
 have hus:=fun {j:Nat} (h1:1≤j) (h3:j≤3)=>used_is (a:=a) (p:=p) (b:=b) H HF had hl hF h1 h3
 generalize hm:(unK (ixOf ad) 3 kids).2=m at *
 generalize hK:(unK (ixOf ad) 3 kids).1=K at *
 intro k
 induction k with
 | zero=>
  intro _
  refine ⟨fun _=>⟨rfl,rfl,List.Sublist.refl _,fun x hx _=>hx,?_⟩,fun h=>absurd h (Nat.not_lt_zero _)⟩
  have e:(prT 4 0 (.nd root kids)).Perm (goneN ad F 0 m++prT 4 0 (.nd root K)):=by
   refine hun.trans (List.Perm.of_eq ?_)
   refine congrArg (·++_) ?_
   unfold goneN
   rw [Nat.sub_zero]
   exact List.map_congr_left fun i _=>by rw [Nat.zero_add]
  rw [prT_four,prT_four] at e
  exact RL.trans (e.trans List.perm_middle).cons_inv
 | succ k ih=>
  intro hk3
  obtain ⟨ih1,ih2⟩:=ih (by omega)
  have hFne:∀ i j,1≤i→i<j→j≤4→F i≠F j:=fun i j h1 h2 h3=>by
   obtain ⟨_,e1⟩:=hF i h1 (by omega)
   obtain ⟨_,e2⟩:=hF j (by omega) h3
   exact path_ne hix h2 4 _ hnd e1 e2
  rw [pruF]
  refine ⟨fun hkm=>?_,fun hkm=>?_⟩
  ·obtain ⟨h1,h2,h3⟩:=ih1 (by omega)
   have hu:usedF (allL root K) ad (k+1)=false:=by
    cases hu:usedF (allL root K) ad (k+1) with
    | false=>rfl
    | true=>exact absurd hkm ((hus (j:=k+1) (by omega) hk3).1 hu)
   rw [if_neg (by rw [h2];decide),hu,if_neg (by decide)]
   generalize pruF root (allL root K) ad k (s0,L,true)=r at h1 h2 h3 ⊢
   have hpm:=hap.sublist h3.sub
   have hnode:∀ j,k<j→j≤4→(nodeF root r.2.1 ad j).getD 0=F j:=fun j hj1 hj2=>by
    obtain ⟨kk,e⟩:=hF j (by omega) hj2
    by_cases h4:j=4
    ·subst h4
     rw [nodeIn_nd,if_pos rfl] at e
     have e:=(Prod.mk.inj (Option.some.inj e)).1
     unfold nodeF
     rw [if_pos rfl]
     exact e
    ·have hmL:=(mem_node RL had h4 (F j)).2 ⟨kk,e⟩
     rw [nodeF_of_mem hpm (h3.mem _ hmL fun i hi1 hi2=>(hFne i j hi1 (by omega) hj2).symm) h4]
     rfl
   rw [hnode (k+1) (by omega) (by omega),hnode (k+2) (by omega) (by omega),h1]
   refine ⟨?_,rfl,?_⟩
   ·rw [upM]
    exact (lay_dn (hFne (k+1) (k+2) (by omega) (by omega) (by omega)).symm).symm
   ·have hp:=h3.perm
    rw [goneN_step ad F (by omega:k<m),List.cons_append] at hp
    refine ⟨(List.filter_sublist).trans h3.sub,fun x hx hn=>List.mem_filter.2 ⟨h3.mem x hx fun i h1 h2=>hn i h1 (by omega),by rw [decide_eq_true_eq];exact hn (k+1) (by omega) (Nat.le_refl _)⟩,?_⟩
    have hp2:=hp.filter (fun x=>decide (x.f≠F (k+1)))
    refine hp2.trans ?_
    have hfr:=((hp.map (·.f)).nodup_iff).1 (hfn.sublist (h3.sub.map _))
    rw [List.map_cons] at hfr
    have hfr:=(List.nodup_cons.1 hfr).1
    rw [List.filter_cons_of_neg (by simp)]
    rw [List.filter_eq_self.2 fun x hx=>by
     rw [decide_eq_true_eq]
     exact fun e=>hfr (List.mem_map.2 ⟨x,hx,e⟩)]
  ·by_cases hkm':m=k
   ·subst hkm'
    obtain ⟨h1,h2,h3⟩:=ih1 (Nat.le_refl _)
    have hu:usedF (allL root K) ad (m+1)=true:=(hus (j:=m+1) (by omega) hk3).2 (by omega)
    rw [if_neg (by rw [h2];decide),if_pos hu]
    refine ⟨h1,rfl,?_⟩
    have:=h3.perm
    rw [goneN_none,List.nil_append] at this
    exact this
   ·obtain ⟨h1,h2,h3⟩:=ih2 (by omega)
    rw [if_pos h2]
    exact ⟨h1,h2,h3⟩
end
/-- The document's Unmap. -/
def unmF (root:Nat)(s:CC)(L:List ND9)(P:List LF)(ad:Nat):CC × List ND9 × List LF × Int:=
 if ¬ ad<140737488355328 then (s,L,P,1) else
 match P.findIdx? (fun y=>decide (y.1=ad/4096*4096)) with
 | none=>(s,L,P,6)
 | some j=>((pruF root (P.eraseIdx j) ad 3 (layC (dnC s (P.getD j default).2.1) ((nodeF root L ad 1).getD 0) (ixOf ad 0) 0,L,true)).1,(pruF root (P.eraseIdx j) ad 3 (layC (dnC s (P.getD j default).2.1) ((nodeF root L ad 1).getD 0) (ixOf ad 0) 0,L,true)).2.1,P.eraseIdx j,0)
theorem findIdx_find9 {α:Type}(q:α→Bool):∀ (l:List α),(l.findIdx? q=none∧l.find? q=none)∨∃ j,∃ hj:j<l.length,l.findIdx? q=some j∧l.find? q=some l[j]
 | []=>.inl ⟨rfl,rfl⟩
 | x::l=>by
  rw [List.findIdx?_cons,List.find?_cons]
  cases hx:q x
  ·simp only [Bool.false_eq_true,if_false]
   rcases findIdx_find9 q l with ⟨h1,h2⟩|⟨j,hj,h1,h2⟩
   ·exact .inl ⟨by rw [h1];rfl,h2⟩
   ·exact .inr ⟨j+1,by simpa using hj,by rw [h1];rfl,by rw [h2];simp⟩
  ·exact .inr ⟨0,by simp,by simp,by simp⟩
theorem getD_at9 {α:Type}{l:List α}{j:Nat}{d:α}(h:j<l.length):l.getD j d=l[j]:=by rw [List.getD_eq_getElem?_getD,List.getElem?_eq_getElem h];rfl
set_option maxRecDepth 100000 in
/-- A leaf's place. -/
theorem at_idx {root ad a p:Nat}{b:Bool}{kids:Nat→Tr}(H:Shp 4 (.nd root kids))(had:ad<281474976710656)(hl:lookT (ixOf ad) 3 kids=.lf a p b):∃ j,∃ hj:j<(allL root kids).length,(allL root kids).findIdx? (fun y=>decide (y.1=ad/4096*4096))=some j∧(allL root kids)[j]=(ad/4096*4096,a,p,b):=by
 have hm:=look_all (root:=root) had hl
 rcases findIdx_find9 (fun y:LF=>decide (y.1=ad/4096*4096)) (allL root kids) with ⟨h1,h2⟩|⟨j,hj,h1,h2⟩
 ·exfalso
  have:=List.find?_eq_none.1 h2 _ hm
  exact this (by simp)
 ·refine ⟨j,hj,h1,?_⟩
  have hq:=List.find?_some (p:=fun y:LF=>decide (y.1=ad/4096*4096)) h2
  rw [decide_eq_true_eq] at hq
  have hs:=(all_look H (List.getElem_mem hj)).2
  have hix:ixOf ((allL root kids)[j]).1=ixOf ad:=by rw [hq];exact funext fun k=>ix_page ad k
  rw [hix,hl] at hs
  injection hs with e1 e2 e3
  refine Prod.ext hq (Prod.ext e1.symm (Prod.ext e2.symm e3.symm))
set_option maxRecDepth 100000 in
theorem un_doc {rd:Int→Int→List UInt8 × Int}{root:Nat}{s:CC}{kids:Nat→Tr}{R:List Nat}{L:List ND9}(T:TI rd s 3 root kids R)(RL:L.Perm (prR kids))(ad:Nat):
 ∃ L',unmF root s L (allL root kids) ad=((unmR s root kids ad).1,L',allL root (unmR s root kids ad).2.1,(unmR s root kids ad).2.2)∧L'.Perm (prR (unmR s root kids ad).2.1):=by
 have H:=T.holds.shp
 have hix:∀ j,ixOf ad j<512:=fun j=>ixOf_lt ad j
 unfold unmF unmR
 by_cases had:ad<140737488355328
 rotate_left
 ·rw [if_pos had,if_neg had]
  exact ⟨L,rfl,RL⟩
 rw [if_neg (fun h=>h had),if_pos had]
 have had8:ad<281474976710656:=by omega
 cases hl:lookT (ixOf ad) 3 kids with
 | no=>
  have h0:((allL root kids).any fun y=>decide (y.1=ad/4096*4096))=false:=(at_look9 (root:=root) H had8).trans (by rw [hl];rfl)
  rw [List.any_eq_false] at h0
  rw [List.findIdx?_eq_none_iff.2 fun y hy=>by simpa using h0 y hy,un_none hix 3 s root kids H T.full hl]
  exact ⟨L,rfl,RL⟩
 | nd g kk=>
  exfalso
  have h0:=at_look9 (root:=root) H had8
  rw [hl] at h0
  obtain ⟨y,hy,e⟩:=List.any_eq_true.1 h0
  rw [decide_eq_true_eq] at e
  have h2:=(all_look H hy).2
  rw [e,show ixOf (ad/4096*4096)=ixOf ad from funext fun k=>ix_page ad k,hl] at h2
  cases h2
 | lf a p b=>
  obtain ⟨j,hj,h1,h2⟩:=at_idx (root:=root) H had8 hl
  rw [h1]
  simp only
  rw [getD_at9 hj,h2]
  have hFx:∀ j,1≤j→j≤4→∃ kk,nodeIn (ixOf ad) j 4 (.nd root kids)=some ((nodeF root L ad j).getD 0,kk):=fun j h7 h8=>by
   obtain ⟨g,kk,e⟩:=look_nodes (ix:=ixOf ad) 3 root _ hl j h7 h8
   rw [nodeF_is RL had8 h8]
   have e':nodeIn (ixOf ad) j 4 (.nd root kids)=some (g,kk):=e
   rw [e']
   exact ⟨kk,rfl⟩
  have hun:=(un_lists ad (a:=a) (p:=p) (b:=b) (fun j=>(nodeF root L ad j).getD 0) 3 0 root kids hl hFx (by rw [show (2:Nat) ^ (12+9*(3+1))=281474976710656 by rfl];exact Nat.div_eq_of_lt had8)).2
  rw [Nat.mul_zero] at hun
  have hP:(allL root kids).eraseIdx j=allL root (unK (ixOf ad) 3 kids).1:=by
   have hp:=erase_perm9 (allL root kids) j hj
   rw [h2] at hp
   exact rise_one (hp.symm.trans hun).cons_inv ((all_rise root kids).sublist (List.eraseIdx_sublist ..)) (all_rise root _)
  rw [hP,un_down (a:=a) (p:=p) (b:=b) hix (fun j=>(nodeF root L ad j).getD 0) 3 s root kids hl hFx]
  simp only
  have hs0:layC (dnC s a) ((nodeF root L ad 1).getD 0) (ixOf ad 0) 0=dnC (layC s ((nodeF root L ad 1).getD 0) (ixOf ad 0) 0) a:=by
   by_cases e:(nodeF root L ad 1).getD 0=a
   ·obtain ⟨kk,e1⟩:=hFx 1 (by omega) (by omega)
    have hmn:=nodeIn_mem hix 4 _ e1
    have hml:a∈lfT 4 (.nd root kids):=by
     rw [← leaves_lf 4 0]
     exact List.mem_map.2 ⟨_,look_all (root:=root) had8 hl,rfl⟩
    rw [e] at hmn ⊢
    have hal:=T.good.hold a (List.mem_append_left _ (List.mem_append_left _ hmn))
    refine lay_dn_self hal ?_ (hix 0)
    have hc:=T.good.cnt a hal
    have c1:=List.count_pos_iff.2 hmn
    have c2:=List.count_pos_iff.2 hml
    rw [hc,show hxT 3 root kids=nodesT (3+1) (.nd root kids)++lfT (3+1) (.nd root kids) from rfl,List.count_append,List.count_append]
    have c1':0<(nodesT (3+1) (.nd root kids)).count a:=c1
    have c2':0<(lfT (3+1) (.nd root kids)).count a:=c2
    omega
   ·exact lay_dn e
  rw [hs0]
  obtain ⟨p1,p2⟩:=pru_is (a:=a) (p:=p) (b:=b) H T.full T.nd RL had8 hl hFx (dnC (layC s ((nodeF root L ad 1).getD 0) (ixOf ad 0) 0) a) 3 (Nat.le_refl _)
  have hm3:=un_le (ixOf ad) 3 kids
  by_cases h3:(unK (ixOf ad) 3 kids).2=3
  ·obtain ⟨q1,q2,q3⟩:=p1 (by omega)
   rw [q1,h3]
   have:=q3.perm
   rw [h3,goneN_none,List.nil_append] at this
   exact ⟨_,rfl,this⟩
  ·obtain ⟨q1,q2,q3⟩:=p2 (by omega)
   rw [q1]
   exact ⟨_,rfl,q3⟩
/-- The tree with another leaf. -/
def setK (ix:Nat→Nat)(c:Tr):Nat→(Nat→Tr)→(Nat→Tr)
 | 0,kids=>updK kids (ix 0) c
 | k+1,kids=>match kids (ix (k+1)) with
  | .nd g kk=>updK kids (ix (k+1)) (.nd g (setK ix c k kk))
  | _=>kids
theorem setK_nd {ix:Nat→Nat}{c:Tr}{k g:Nat}{kids kk:Nat→Tr}(h:kids (ix (k+1))=.nd g kk):setK ix c (k+1) kids=updK kids (ix (k+1)) (.nd g (setK ix c k kk)):=by rw [setK,h]
theorem set_none {ix:Nat→Nat}(hix:∀ j,ix j<512){a p:Nat}{b:Bool}:∀ (k:Nat) (s:CC) (f:Nat) (kids:Nat→Tr),Shp (k+1) (.nd f kids)→lookT ix k kids=.no→downT (setV a p b) ix k s f kids=(s,kids,6)
 | 0,s,f,kids,_,hl=>by
  have hl:kids (ix 0)=.no:=hl
  rw [downT,hl]
  show (s,updK kids (ix 0) .no,(6:Int))=_
  rw [← hl,updK_same]
 | k+1,s,f,kids,H,hl=>by
  have hh:=H (ix (k+1)) (hix _)
  cases hk:kids (ix (k+1)) with
  | no=>exact downT_stay hk rfl
  | lf a p b=>rw [hk] at hh;exact hh.elim
  | nd g kk=>
   rw [hk] at hh
   rw [lookT_nd hk] at hl
   rw [downT_nd hk,set_none hix k s g kk hh hl,if_neg (by simp [setV])]
   simp only
   rw [← hk,updK_same]
theorem set_down {ix:Nat→Nat}{a p a' p':Nat}{b b':Bool}(F:Nat→Nat):∀ (k:Nat) (s:CC) (f:Nat) (kids:Nat→Tr),lookT ix k kids=.lf a' p' b'→(∀ j,1≤j→j≤k+1→∃ kk,nodeIn ix j (k+1) (.nd f kids)=some (F j,kk))→
 downT (setV a p b) ix k s f kids=(dnC (layC (upC s a) (F 1) (ix 0) (wdT (.lf a p b))) a',setK ix (.lf a p b) k kids,0)
 | 0,s,f,kids,hl,hF=>by
  have hl:kids (ix 0)=.lf a' p' b':=hl
  obtain ⟨kk,e⟩:=hF 1 (Nat.le_refl _) (Nat.le_refl _)
  rw [nodeIn_nd,if_pos rfl] at e
  have e:=(Prod.mk.inj (Option.some.inj e)).1
  rw [downT,hl,← e]
  rfl
 | k+1,s,f,kids,hl,hF=>by
  cases hk:kids (ix (k+1)) with
  | no=>rw [lookT_no hk] at hl;cases hl
  | lf a2 p2 b2=>rw [lookT,hk] at hl;cases hl
  | nd g kk=>
   rw [lookT_nd hk] at hl
   have ih:=set_down (a:=a) (p:=p) (b:=b) F k s g kk hl fun j h1 h2=>by
    obtain ⟨kj,e⟩:=hF j h1 (by omega)
    rw [nodeIn_nd,if_neg (by omega),hk] at e
    exact ⟨kj,e⟩
   rw [downT_nd hk,ih,if_neg (by simp [setV]),setK_nd hk]
theorem flat_same {α:Type}(H:Nat→Tr→List α)(kids:Nat→Tr)(i:Nat){c:Tr}(h:H i c=H i (kids i)):((List.range 512).flatMap fun j=>H j (updK kids i c j))=(List.range 512).flatMap fun j=>H j (kids j):=by
 rw [List.flatMap_def,List.flatMap_def]
 refine congrArg List.flatten (List.map_congr_left fun j _=>?_)
 by_cases e:j=i
 ·rw [e,updK_at,h]
 ·rw [updK_ne e]
theorem set_lists (ad:Nat){a p a' p':Nat}{b b':Bool}:∀ (k c f:Nat) (kids:Nat→Tr),lookT (ixOf ad) k kids=.lf a' p' b'→ad/2 ^ (12+9*(k+1))=c→
 prT (k+1) c (.nd f (setK (ixOf ad) (.lf a p b) k kids))=prT (k+1) c (.nd f kids)∧
 ∃ R,(leavesT (k+1) (2 ^ (12+9*(k+1))*c) (.nd f kids)).Perm ((ad/4096*4096,a',p',b')::R)∧(leavesT (k+1) (2 ^ (12+9*(k+1))*c) (.nd f (setK (ixOf ad) (.lf a p b) k kids))).Perm ((ad/4096*4096,a,p,b)::R):=by
 intro k
 induction k with
 | zero=>
  intro c f kids hl hc
  have hl:kids (ixOf ad 0)=.lf a' p' b':=hl
  refine ⟨?_,?_⟩
  ·rw [prT_nd,prT_nd,flat_nil _ _ (fun i=>prT_zero _ _),flat_nil _ _ (fun i=>prT_zero _ _)]
  ·obtain ⟨R,hR⟩:=flat_upd (fun j tr=>leavesT 0 (2 ^ (12+9*(0+1))*c+j*2 ^ (12+9*0)) tr) kids (ixOf ad 0) (ixOf_lt ad 0)
   have e:2 ^ (12+9*(0+1))*c+ixOf ad 0*2 ^ (12+9*0)=ad/4096*4096:=by
    rw [← hc]
    unfold ixOf
    rw [show (2:Nat) ^ (12+9*(0+1))=2097152 by rfl,show (2:Nat) ^ (12+9*0)=4096 by rfl]
    omega
   have h0:=hR (.lf a' p' b')
   have h1:=hR (.lf a p b)
   rw [← hl,updK_same,hl] at h0
   refine ⟨R,?_,?_⟩
   ·rw [leavesT_nd]
    refine h0.trans (List.Perm.of_eq ?_)
    exact congrArg (fun z=>([(z,a',p',b')]:List LF)++R) e
   ·rw [leavesT_nd]
    refine h1.trans (List.Perm.of_eq ?_)
    exact congrArg (fun z=>([(z,a,p,b)]:List LF)++R) e
 | succ k ih=>
  intro c f kids hl hc
  have hcd:c*512+ixOf ad (k+1)=ad/2 ^ (12+9*(k+1)):=by
   rw [← hc]
   unfold ixOf
   rw [pow_next (k+1),← Nat.div_div_eq_div_mul]
   omega
  have hcl:2 ^ (12+9*(k+1+1))*c+ixOf ad (k+1)*2 ^ (12+9*(k+1))=2 ^ (12+9*(k+1))*(ad/2 ^ (12+9*(k+1))):=by
   rw [← hcd,pow_next (k+1)]
   generalize 2 ^ (12+9*(k+1))=M
   rw [Nat.mul_add,Nat.mul_comm (ixOf ad (k+1)) M,Nat.mul_comm c 512,Nat.mul_assoc]
  cases hk:kids (ixOf ad (k+1)) with
  | no=>rw [lookT_no hk] at hl;cases hl
  | lf a2 p2 b2=>rw [lookT,hk] at hl;cases hl
  | nd g kk=>
   rw [lookT_nd hk] at hl
   obtain ⟨h1,R,h2,h3⟩:=ih _ g kk hl rfl
   rw [setK_nd hk]
   refine ⟨?_,?_⟩
   ·rw [prT_nd,prT_nd]
    exact congrArg (List.cons _) (flat_same (fun j tr=>prT (k+1) (c*512+j) tr) kids (ixOf ad (k+1)) (by rw [hcd,hk];exact h1))
   ·obtain ⟨R2,hR⟩:=flat_upd (fun j tr=>leavesT (k+1) (2 ^ (12+9*(k+1+1))*c+j*2 ^ (12+9*(k+1))) tr) kids (ixOf ad (k+1)) (ixOf_lt ad _)
    have e0:=hR (kids (ixOf ad (k+1)))
    rw [updK_same] at e0
    have e1:=hR (.nd g (setK (ixOf ad) (.lf a p b) k kk))
    rw [hk] at e0
    rw [hcl] at e0 e1
    refine ⟨R++R2,?_,?_⟩
    ·rw [leavesT_nd]
     exact e0.trans (h2.append_right R2)
    ·rw [leavesT_nd]
     exact e1.trans (h3.append_right R2)
/-- A leaf's frame may be its node's. -/
theorem leaf_swap {rd:Int→Int→List UInt8 × Int}{root ad a p f1 x:Nat}{b:Bool}{s:CC}{kids:Nat→Tr}{R:List Nat}(T:TI rd s 3 root kids R)(had:ad<281474976710656)(hl:lookT (ixOf ad) 3 kids=.lf a p b){kk:Nat→Tr}(e1:nodeIn (ixOf ad) 1 4 (.nd root kids)=some (f1,kk)):
 layC (dnC s a) f1 (ixOf ad 0) x=dnC (layC s f1 (ixOf ad 0) x) a:=by
 have hix:∀ j,ixOf ad j<512:=fun j=>ixOf_lt ad j
 by_cases e:f1=a
 ·have hmn:=nodeIn_mem hix 4 _ e1
  have hml:a∈lfT 4 (.nd root kids):=by
   rw [← leaves_lf 4 0]
   exact List.mem_map.2 ⟨_,look_all (root:=root) had hl,rfl⟩
  rw [e] at hmn ⊢
  have hal:=T.good.hold a (List.mem_append_left _ (List.mem_append_left _ hmn))
  refine lay_dn_self hal ?_ (hix 0)
  have hc:=T.good.cnt a hal
  have c1:=List.count_pos_iff.2 hmn
  have c2:=List.count_pos_iff.2 hml
  rw [hc,show hxT 3 root kids=nodesT (3+1) (.nd root kids)++lfT (3+1) (.nd root kids) from rfl,List.count_append,List.count_append]
  have c1':0<(nodesT (3+1) (.nd root kids)).count a:=c1
  have c2':0<(lfT (3+1) (.nd root kids)).count a:=c2
  omega
 ·exact lay_dn e
/-- The document's Set. -/
def setF (root:Nat)(s:CC)(L:List ND9)(P:List LF)(ad:Nat)(a q:Int)(b:Bool):CC × List ND9 × List LF × Int:=
 if ¬ (ad<140737488355328∧rightB s a q=true) then (s,L,P,1) else
 match P.findIdx? (fun y=>decide (y.1=ad/4096*4096)) with
 | none=>(s,L,P,6)
 | some j=>(layC (dnC (upC s a.toNat) (P.getD j default).2.1) ((nodeF root L ad 1).getD 0) (ixOf ad 0) (wdT (.lf a.toNat q.toNat b)),L,P.set j (ad/4096*4096,a.toNat,q.toNat,b),0)
set_option maxRecDepth 100000 in
theorem set_doc {rd:Int→Int→List UInt8 × Int}{root:Nat}{s:CC}{kids:Nat→Tr}{R:List Nat}{L:List ND9}(T:TI rd s 3 root kids R)(RL:L.Perm (prR kids))(ad:Nat)(a q:Int)(b:Bool)(hq0:0≤q):
 setF root s L (allL root kids) ad a q b=((setR s root kids ad a q b).1,L,allL root (setR s root kids ad a q b).2.1,(setR s root kids ad a q b).2.2)∧L.Perm (prR (setR s root kids ad a q b).2.1):=by
 have H:=T.holds.shp
 have hix:∀ j,ixOf ad j<512:=fun j=>ixOf_lt ad j
 unfold setF setR
 by_cases had:ad<140737488355328∧rightB s a q=true
 rotate_left
 ·rw [if_pos had,if_neg had]
  exact ⟨rfl,RL⟩
 rw [if_neg (fun h=>h had),if_pos had]
 obtain ⟨had,hri⟩:=had
 have had8:ad<281474976710656:=by omega
 obtain ⟨k,r,rfl,rfl,hr7,hk⟩:=rightB_is hri hq0
 simp only [Int.toNat_natCast]
 cases hl:lookT (ixOf ad) 3 kids with
 | no=>
  have h0:((allL root kids).any fun y=>decide (y.1=ad/4096*4096))=false:=(at_look9 (root:=root) H had8).trans (by rw [hl];rfl)
  rw [List.any_eq_false] at h0
  rw [List.findIdx?_eq_none_iff.2 fun y hy=>by simpa using h0 y hy,set_none hix 3 s root kids H hl]
  exact ⟨rfl,RL⟩
 | nd g kk=>
  exfalso
  have h0:=at_look9 (root:=root) H had8
  rw [hl] at h0
  obtain ⟨y,hy,e⟩:=List.any_eq_true.1 h0
  rw [decide_eq_true_eq] at e
  have h2:=(all_look H hy).2
  rw [e,show ixOf (ad/4096*4096)=ixOf ad from funext fun k=>ix_page ad k,hl] at h2
  cases h2
 | lf a' p' b'=>
  obtain ⟨j,hj,h1,h2⟩:=at_idx (root:=root) H had8 hl
  rw [h1]
  simp only
  rw [getD_at9 hj,h2]
  have hFx:∀ j,1≤j→j≤4→∃ kk,nodeIn (ixOf ad) j 4 (.nd root kids)=some ((nodeF root L ad j).getD 0,kk):=fun j h7 h8=>by
   obtain ⟨g,kk,e⟩:=look_nodes (ix:=ixOf ad) 3 root _ hl j h7 h8
   rw [nodeF_is RL had8 h8]
   have e':nodeIn (ixOf ad) j 4 (.nd root kids)=some (g,kk):=e
   rw [e']
   exact ⟨kk,rfl⟩
  obtain ⟨g1,Rr,g2,g3⟩:=set_lists ad (a:=k) (p:=r) (b:=b) 3 0 root kids hl (by rw [show (2:Nat) ^ (12+9*(3+1))=281474976710656 by rfl];exact Nat.div_eq_of_lt had8)
  rw [Nat.mul_zero] at g2 g3
  obtain ⟨kk,e1⟩:=hFx 1 (by omega) (by omega)
  rw [set_down (a:=k) (p:=r) (b:=b) (fun j=>(nodeF root L ad j).getD 0) 3 s root kids hl hFx,leaf_swap (T.up hk) had8 hl e1]
  have hP:(allL root kids).set j (ad/4096*4096,k,r,b)=allL root (setK (ixOf ad) (.lf k r b) 3 kids):=by
   have hp:=erase_perm9 (allL root kids) j hj
   rw [h2] at hp
   have hr1:((allL root kids).eraseIdx j).Perm Rr:=(hp.symm.trans g2).cons_inv
   have hs:=erase_perm9 ((allL root kids).set j (ad/4096*4096,k,r,b)) j (by rw [List.length_set];exact hj)
   rw [List.getElem_set_self,List.eraseIdx_set_eq] at hs
   refine rise_one (hs.trans ((hr1.cons _).trans g3.symm)) ?_ (all_rise root _)
   have hm:((allL root kids).set j (ad/4096*4096,k,r,b)).map (·.1)=(allL root kids).map (·.1):=by
    rw [List.map_set]
    refine List.ext_getElem (by simp) fun i hi1 hi2=>?_
    rw [List.getElem_set]
    split
    ·rename_i e
     subst e
     rw [List.getElem_map,h2]
    ·rfl
   have h9:((allL root kids).map (·.1)).Pairwise (·<·):=List.pairwise_map.2 (all_rise root kids)
   rw [← hm] at h9
   exact List.pairwise_map.1 h9
  rw [hP]
  refine ⟨rfl,RL.trans (List.Perm.of_eq ?_)⟩
  have g1':prT 4 0 (.nd root (setK (ixOf ad) (.lf k r b) 3 kids))=prT 4 0 (.nd root kids):=g1
  rw [prT_four,prT_four] at g1'
  exact (List.cons.inj g1').2.symm
/-- The document's Free. -/
theorem free_doc {root:Nat}{s:CC}{kids:Nat→Tr}{L:List ND9}(RL:L.Perm (prR kids)):dnC (L.foldl (fun z x=>dnC z x.f) ((allL root kids).foldl (fun z y=>dnC z y.2.1) s)) root=dnL s (lfT 4 (.nd root kids)++nodL root kids):=by
 unfold dnL
 rw [List.foldl_append,← leaves_lf 4 0 (.nd root kids),List.foldl_map]
 rw [show nodL root kids=root::(prR kids).map (·.f) from prR_f root kids]
 generalize (leavesT 4 0 (.nd root kids)).foldl (fun z y=>dnC z y.2.1) s=z
 have h1:=dns_any (fun x:Nat=>x) z (l:=root::(prR kids).map (·.f)) (m:=(prR kids).map (·.f)++[root]) (List.perm_append_singleton root _).symm
 have h2:=dns_any (fun x:ND9=>x.f) z RL
 rw [show (root::(prR kids).map (·.f)).foldl dnC z=(root::(prR kids).map (·.f)).foldl (fun s x=>dnC s x) z from rfl,h1,List.foldl_append,List.foldl_map,h2]
 rfl
/-- The document's nodes below a part, rising. -/
def belowF (L:List ND9):Nat→Nat→List Nat
 | 0,_=>[]
 | k+1,ab=>(List.range 512).flatMap fun n=>L.flatMap fun x=>if x.lv=k+1∧x.pt=ab*512+n then x.f::belowF L k x.pt else []
theorem flat_one {L:List ND9}{lv pt:Nat}(h:ND9→List Nat):L.Pairwise (fun x y=>x.lv≠y.lv∨x.pt≠y.pt)→
 (∀ x∈L,x.lv=lv→x.pt=pt→(L.flatMap fun y=>if y.lv=lv∧y.pt=pt then h y else [])=h x)∧
 ((∀ x∈L,¬ (x.lv=lv∧x.pt=pt))→(L.flatMap fun y=>if y.lv=lv∧y.pt=pt then h y else [])=[]):=by
 intro hp
 have none:∀ M:List ND9,(∀ x∈M,¬ (x.lv=lv∧x.pt=pt))→(M.flatMap fun y=>if y.lv=lv∧y.pt=pt then h y else [])=[]:=fun M hM=>by
  rw [List.flatMap_eq_nil_iff]
  intro y hy
  rw [if_neg (hM y hy)]
 refine ⟨?_,none L⟩
 induction L with
 | nil=>intro x hx;cases hx
 | cons z M ih=>
  intro x hx h1 h2
  have hp':=List.pairwise_cons.1 hp
  rw [List.flatMap_cons]
  by_cases hz:z.lv=lv∧z.pt=pt
  ·have hM:∀ y∈M,¬ (y.lv=lv∧y.pt=pt):=fun y hy e=>by
    rcases hp'.1 y hy with h9|h9
    ·exact h9 (hz.1.trans e.1.symm)
    ·exact h9 (hz.2.trans e.2.symm)
   rw [if_pos hz,none M hM,List.append_nil]
   rcases List.mem_cons.1 hx with rfl|hx
   ·rfl
   ·exact absurd ⟨h1,h2⟩ (hM x hx)
  ·rw [if_neg hz,List.nil_append]
   rcases List.mem_cons.1 hx with rfl|hx
   ·exact absurd ⟨h1,h2⟩ hz
   ·exact ih hp'.2 x hx h1 h2
theorem below_is {L:List ND9}(hp:L.Pairwise fun x y=>x.lv≠y.lv∨x.pt≠y.pt):∀ (k ab:Nat) (kids:Nat→Tr),(∀ x:ND9,1≤x.lv→x.lv≤k→x.pt/512 ^ (k+1-x.lv)=ab→(x∈L↔∃ i,i<512∧x∈prT k (ab*512+i) (kids i)))→(∀ i,i<512→Shp k (kids i))→
 belowF L k ab=(List.range 512).flatMap fun n=>nodesT k (kids n)
 | 0,ab,kids,_,_=>by
  symm
  rw [belowF,List.flatMap_eq_nil_iff]
  intro i _
  cases kids i <;> rfl
 | k+1,ab,kids,hS,hH=>by
  rw [belowF,List.flatMap_def,List.flatMap_def]
  refine congrArg List.flatten (List.map_congr_left fun n hn=>?_)
  have hn:=List.mem_range.1 hn
  obtain ⟨f1,f2⟩:=flat_one (lv:=k+1) (pt:=ab*512+n) (fun x=>x.f::belowF L k x.pt) hp
  have hkey:∀ g,(⟨k+1,ab*512+n,g⟩:ND9)∈L↔(⟨k+1,ab*512+n,g⟩:ND9)∈prT (k+1) (ab*512+n) (kids n):=fun g=>by
   rw [hS ⟨k+1,ab*512+n,g⟩ (by show 1≤k+1;omega) (Nat.le_refl _) (by show (ab*512+n)/512 ^ (k+1+1-(k+1))=ab;rw [show k+1+1-(k+1)=1 by omega,Nat.pow_one];omega)]
   constructor
   ·rintro ⟨i,hi,hx⟩
    have h3:=(prT_key hx).2.2
    have h3:(ab*512+n)/512 ^ (k+1-(k+1))=ab*512+i:=h3
    rw [Nat.sub_self,Nat.pow_zero,Nat.div_one] at h3
    obtain rfl:n=i:=by omega
    exact hx
   ·exact fun hx=>⟨n,hn,hx⟩
  have hh:=hH n hn
  cases ht:kids n with
  | lf a p b=>rw [ht] at hh;exact hh.elim
  | no=>
   show _=[]
   refine f2 fun x hx e=>?_
   have:=(hkey x.f).1 (by rw [← e.1,← e.2];exact hx)
   rw [ht] at this
   cases this
  | nd g kk=>
   rw [ht] at hh
   have hm:(⟨k+1,ab*512+n,g⟩:ND9)∈L:=(hkey g).2 (by rw [ht];exact List.mem_cons_self ..)
   rw [f1 _ hm rfl rfl]
   show g::belowF L k (ab*512+n)=g::_
   refine congrArg (List.cons g) (below_is hp k (ab*512+n) kk (fun x h1 h2 h3=>?_) hh)
   have h4:x.pt/512 ^ (k+1+1-x.lv)=ab:=by
    rw [show k+1+1-x.lv=(k+1-x.lv)+1 by omega,Nat.pow_succ,← Nat.div_div_eq_div_mul,h3]
    omega
   rw [hS x h1 (by omega) h4]
   constructor
   ·rintro ⟨i,hi,hx⟩
    have h5:=(prT_key hx).2.2
    rw [h3] at h5
    obtain rfl:n=i:=by omega
    rw [ht] at hx
    rcases List.mem_cons.1 hx with e|hx
    ·rw [e] at h2
     exact absurd h2 (by show ¬ k+1≤k;omega)
    ·obtain ⟨i,hi,hx⟩:=List.mem_flatMap.1 hx
     exact ⟨i,List.mem_range.1 hi,hx⟩
   ·rintro ⟨i,hi,hx⟩
    refine ⟨n,hn,?_⟩
    rw [ht]
    exact List.mem_cons_of_mem _ (List.mem_flatMap.2 ⟨i,List.mem_range.2 hi,hx⟩)
theorem nodes_doc {root:Nat}{kids:Nat→Tr}{L:List ND9}(H:Shp 4 (.nd root kids))(RL:L.Perm (prR kids)):root::belowF L 3 0=nodL root kids:=by
 have hap:L.Pairwise fun x y=>x.lv≠y.lv∨x.pt≠y.pt:=(RL.pairwise_iff (R:=fun x y:ND9=>x.lv≠y.lv∨x.pt≠y.pt) (fun {x y} h=>h.imp Ne.symm Ne.symm)).2 (prR_apart kids)
 rw [below_is hap 3 0 kids (fun x _ _ _=>?_) H]
 ·rfl
 ·rw [RL.mem_iff,List.mem_flatMap]
  constructor
  ·rintro ⟨i,hi,hx⟩
   exact ⟨i,List.mem_range.1 hi,by rw [Nat.zero_mul,Nat.zero_add];exact hx⟩
  ·rintro ⟨i,hi,hx⟩
   rw [Nat.zero_mul,Nat.zero_add] at hx
   exact ⟨i,List.mem_range.2 hi,hx⟩
end Go.Proofs.YtdjpjfdeeelijaaGreatDoor
