/- Merged: GtB GtC GtD GtE GtF. -/
import Derived.Test.YtdjpjfdeeelijaaGreatDoorKY0
import Derived.Test.YtdjpjfdeeelijaaGreatDoorKY1
namespace Go.Proofs.YtdjpjfdeeelijaaGreatDoor
open Go.RowKit Go.Sort
theorem wdAt_dn {s:CC}{g f i x:Nat}(h:WdAt s.fs f i x):WdAt (dnC s g).fs f i x:=wdAt_of_bs h dn_len dn_bs
def findV:Vis:=⟨false,false,fun s _ _ ch=>match ch with
 | .lf a p b=>(s,.lf a p b,0)
 | d=>(s,d,6)⟩
def mapV (a p:Nat)(b:Bool):Vis:=⟨true,false,fun s f i _=>(layC s f i (wdT (.lf a p b)),.lf a p b,0)⟩
def unmapV:Vis:=⟨false,true,fun s f i ch=>match ch with
 | .lf a _ _=>(dnC (layC s f i 0) a,.no,0)
 | d=>(s,d,6)⟩
def setV (a p:Nat)(b:Bool):Vis:=⟨false,false,fun s f i ch=>match ch with
 | .lf a' _ _=>(dnC (layC (upC s a) f i (wdT (.lf a p b))) a',.lf a p b,0)
 | d=>(s,d,6)⟩
def mapB (a:Nat)(e:Int):List Nat:=if e=0 then [] else [a]
def TakenF (a:Nat)(s:CC):Prop:=∃ ha:a<s.fs.length,s.fs[a].cnt≠0
section
variable {rd:Int→Int→List UInt8 × Int}
theorem findOk:LeafOk findV rd [] (fun _=>[]) (fun _=>True) (fun _=>True):=by
 refine ⟨fun _ _=>trivial,?_,fun _ _=>rfl,fun _ _ h=>h,fun h=>by cases h⟩
 intro s f i ch R _ _ hi G off hh hw
 have L:∀ e:Int,LP findV rd (fun _=>[]) s f i ch R (s,ch,e):=fun e=>⟨G,hh,hw,fun _ _ _ _ h=>h,fun _ _=>SameBs.refl,rfl,rfl,rfl,fun _=>rfl,fun _ h=>h,fun h=>by cases h⟩
 cases ch with
 | no=>exact L 6
 | lf a p b=>exact L 0
 | nd g kk=>exact hh.elim
theorem mapOk {a p:Nat}{b:Bool}(hp:p≤7):LeafOk (mapV a p b) rd [a] (mapB a) (fun _=>True) (fun ch=>ch=.no):=by
 refine ⟨fun _ _=>trivial,?_,fun e he=>by unfold mapB;rw [if_neg he],fun e g hg=>?_,fun _=>rfl⟩
 ·intro s f i ch R _ hno hi G off hh hw
  subst hno
  obtain ⟨hf,h0⟩:=G.at_ (List.mem_cons_self ..)
  have G2:Good rd (layC s f i (wdT (.lf a p b))) (f::([]++([a]++R))):=G.lay (List.mem_cons_self ..) off hi
  show LP (mapV a p b) rd (mapB a) s f i .no R (layC s f i (wdT (.lf a p b)),.lf a p b,0)
  refine ⟨?_,⟨?_,hp⟩,layS_wd G.lens hf h0 hi hi (fun h=>absurd rfl h) (fun _=>rfl),fun j hj hne x hx=>layS_wd G.lens hf h0 hi hj (fun _=>hx) (fun h=>absurd h hne),fun g hg=>layS_other hg,layS_len,rfl,rfl,fun h=>absurd rfl h,fun _ h=>(by cases h),fun _=>⟨rfl,fun h=>(by cases h)⟩⟩
  ·exact G2
  ·exact G2.hold a (by simp)
 ·unfold mapB at hg
  split at hg
  ·cases hg
  ·exact hg
theorem unmapOk:LeafOk unmapV rd [] (fun _=>[]) (fun _=>True) (fun _=>True):=by
 refine ⟨fun _ _=>trivial,?_,fun _ _=>rfl,fun _ _ h=>h,fun h=>by cases h⟩
 intro s f i ch R _ _ hi G off hh hw
 cases ch with
 | no=>exact ⟨G,hh,hw,fun _ _ _ _ h=>h,fun _ _=>SameBs.refl,rfl,rfl,rfl,fun _=>rfl,fun h=>(by cases h),fun h=>by cases h⟩
 | nd g kk=>exact hh.elim
 | lf a p b=>
  obtain ⟨hf,h0⟩:=G.at_ (List.mem_cons_self ..)
  have G2:Good rd (layC s f i 0) (f::([a]++([]++R))):=G.lay (List.mem_cons_self ..) off hi
  have G3:Good rd (dnC (layC s f i 0) a) (f::([]++([]++R))):=(G2.perm (show (f::([a]++([]++R))).Perm (a::f::([]++([]++R))) from List.Perm.swap _ _ _)).down
  show LP unmapV rd (fun _=>[]) s f i (.lf a p b) R (dnC (layC s f i 0) a,.no,0)
  refine ⟨G3,trivial,?_,fun j hj hne x hx=>?_,fun g hg=>(layS_other hg).trans (dn_bs (s:=layC s f i 0) (g:=a)) layS_len,by rw [dn_len];exact layS_len,rfl,rfl,fun h=>absurd rfl h,fun h=>(by cases h),fun h=>by cases h⟩
  ·exact wdAt_dn (s:=layC s f i 0) (layS_wd G.lens hf h0 hi hi (fun h=>absurd rfl h) (fun _=>rfl))
  ·exact wdAt_dn (s:=layC s f i 0) (layS_wd G.lens hf h0 hi hj (fun _=>hx) (fun h=>absurd h hne))
theorem setOk {a p:Nat}{b:Bool}(hp:p≤7):LeafOk (setV a p b) rd [] (fun _=>[]) (TakenF a) (fun _=>True):=by
 refine ⟨fun h=>(by cases h),?_,fun _ _=>rfl,fun _ _ h=>h,fun h=>by cases h⟩
 intro s f i ch R hta _ hi G off hh hw
 cases ch with
 | no=>exact ⟨G,hh,hw,fun _ _ _ _ h=>h,fun _ _=>SameBs.refl,rfl,rfl,rfl,fun _=>rfl,fun _ h=>h,fun h=>by cases h⟩
 | nd g kk=>exact hh.elim
 | lf a' p' b'=>
  obtain ⟨ha,ha0⟩:=hta
  have G1:Good rd (upC s a) (a::(f::([a']++([]++R)))):=G.up ha ha0
  have hfm:f∈a::(f::([a']++([]++R))):=by simp
  obtain ⟨hf,h0⟩:=G1.at_ hfm
  have G2:Good rd (layC (upC s a) f i (wdT (.lf a p b))) (a::(f::([a']++([]++R)))):=G1.lay hfm off hi
  have hpm:(a::(f::([a']++([]++R)))).Perm (a'::(f::([a]++([]++R)))):=perm_of fun q=>by
   simp only [List.count_cons,List.count_append,List.count_nil]
   omega
  have G3:Good rd (dnC (layC (upC s a) f i (wdT (.lf a p b))) a') (f::([a]++([]++R))):=(G2.perm hpm).down
  show LP (setV a p b) rd (fun _=>[]) s f i (.lf a' p' b') R (dnC (layC (upC s a) f i (wdT (.lf a p b))) a',.lf a p b,0)
  have hlen:(dnC (layC (upC s a) f i (wdT (.lf a p b))) a').fs.length=s.fs.length:=by rw [dn_len];exact layS_len.trans up_len
  refine ⟨G3,⟨by rw [hlen];exact ha,hp⟩,?_,fun j hj hne x hx=>?_,fun g hg=>((up_bs (s:=s) (g:=a)).trans (layS_other hg) up_len).trans (dn_bs (s:=layC (upC s a) f i (wdT (.lf a p b))) (g:=a')) (layS_len.trans up_len),hlen,rfl,rfl,fun h=>absurd rfl h,fun _ h=>(by cases h),fun h=>by cases h⟩
  ·exact wdAt_dn (s:=layC (upC s a) f i (wdT (.lf a p b))) (layS_wd G1.lens hf h0 hi hi (fun h=>absurd rfl h) (fun _=>rfl))
  ·exact wdAt_dn (s:=layC (upC s a) f i (wdT (.lf a p b))) (layS_wd G1.lens hf h0 hi hj (fun _=>wdAt_of_bs hx up_len up_bs) (fun h=>absurd h hne))
end
/-- Leaves lie below the lowest nodes, and there alone. -/
def Shp:Nat→Tr→Prop
 | 0,.nd _ _=>False
 | 0,_=>True
 | _+1,.no=>True
 | _+1,.lf _ _ _=>False
 | k+1,.nd _ kids=>∀ i,i<512→Shp k (kids i)
theorem shp_no (k:Nat):Shp k .no:=by cases k <;> trivial
theorem Holds.shp {fs:List FR}:∀ {k:Nat} {t:Tr},Holds fs k t→Shp k t
 | 0,.no,_=>trivial
 | 0,.lf _ _ _,_=>trivial
 | 0,.nd _ _,h=>h
 | _+1,.no,_=>trivial
 | _+1,.lf _ _ _,h=>h
 | _k+1,.nd _f _kids,h=>fun i hi=>(h i hi).2.shp
section
variable {ix:Nat→Nat}{rd:Int→Int→List UInt8 × Int}
theorem down_find (hix:∀ j,ix j<512):∀ (k:Nat) (s:CC) (f:Nat) (kids:Nat→Tr),Shp (k+1) (.nd f kids)→downT findV ix k s f kids=(s,kids,if isNo (lookT ix k kids) then 6 else 0)
 | 0,s,f,kids,H=>by
  have hh:=H (ix 0) (hix 0)
  show ((findV.leaf s f (ix 0) (kids (ix 0))).1,updK kids (ix 0) (findV.leaf s f (ix 0) (kids (ix 0))).2.1,(findV.leaf s f (ix 0) (kids (ix 0))).2.2)=(s,kids,if isNo (kids (ix 0)) then 6 else 0)
  cases hk:kids (ix 0) with
  | no=>show (s,updK kids (ix 0) .no,(6:Int))=_;rw [← hk,updK_same,hk];rfl
  | lf a p b=>show (s,updK kids (ix 0) (.lf a p b),(0:Int))=_;rw [← hk,updK_same,hk];rfl
  | nd g kk=>rw [hk] at hh;exact hh.elim
 | k+1,s,f,kids,H=>by
  have hh:=H (ix (k+1)) (hix _)
  cases hk:kids (ix (k+1)) with
  | no=>rw [downT_stay hk rfl,lookT_no hk];rfl
  | lf a p b=>rw [hk] at hh;exact hh.elim
  | nd g kk=>
   rw [hk] at hh
   rw [downT_nd hk,down_find hix k s g kk hh,lookT_nd hk,if_neg (by simp [findV])]
   simp only
   rw [← hk,updK_same]
/-- A leaf that was put is there, and is one more. -/
theorem down_map (hix:∀ j,ix j<512){a p:Nat}{b:Bool}:∀ (k:Nat) (s:CC) (f:Nat) (kids:Nat→Tr),Shp (k+1) (.nd f kids)→FullT k kids→lookT ix k kids=.no→(downT (mapV a p b) ix k s f kids).2.2=0→
 lookT ix k (downT (mapV a p b) ix k s f kids).2.1=.lf a p b∧(lfT (k+1) (.nd f (downT (mapV a p b) ix k s f kids).2.1)).Perm (a::lfT (k+1) (.nd f kids))∧
 ∀ s',(downT unmapV ix k s' f (downT (mapV a p b) ix k s f kids).2.1).2=(kids,0)
 | 0,s,f,kids,_,_,hl,_=>by
  have hl:kids (ix 0)=.no:=hl
  have e:(downT (mapV a p b) ix 0 s f kids).2.1=updK kids (ix 0) (.lf a p b):=rfl
  rw [e]
  refine ⟨updK_at ..,?_,fun s'=>?_⟩
  ·obtain ⟨Ln,Ll,P⟩:=parts 0 f kids (ix 0) (hix 0)
   refine perm_of fun q=>?_
   have h1:=P.l0 q
   have h2:=P.l1 (.lf a p b) q
   rw [hl] at h1
   simp only [lfT,List.count_cons,List.count_nil] at h1 h2 ⊢
   omega
  ·show (updK (updK kids (ix 0) (.lf a p b)) (ix 0) (unmapV.leaf s' f (ix 0) (updK kids (ix 0) (.lf a p b) (ix 0))).2.1,(unmapV.leaf s' f (ix 0) (updK kids (ix 0) (.lf a p b) (ix 0))).2.2)=(kids,0)
   rw [updK_at,updK_twice]
   show (updK kids (ix 0) .no,(0:Int))=_
   rw [← hl,updK_same]
 | k+1,s,f,kids,H,HF,hl,he=>by
  have hh:=H (ix (k+1)) (hix _)
  obtain ⟨Ln,Ll,P⟩:=parts (k+1) f kids (ix (k+1)) (hix _)
  cases hk:kids (ix (k+1)) with
  | lf a p b=>rw [hk] at hh;exact hh.elim
  | nd g kk=>
   rw [hk] at hh
   rw [lookT_nd hk] at hl
   rw [downT_nd hk,if_neg (by simp [mapV])] at he ⊢
   simp only at he ⊢
   obtain ⟨h1,h2,h3⟩:=down_map hix k s g kk hh (HF _ (hix _) g kk hk).2 hl he
   generalize (downT (mapV a p b) ix k s g kk).2.1=kk' at h1 h2 h3 ⊢
   refine ⟨by rw [lookT_nd (updK_at ..)];exact h1,perm_of fun q=>?_,fun s'=>?_⟩
   ·have e1:=P.l0 q
    have e2:=P.l1 (.nd g kk') q
    have e3:=h2.count_eq q
    rw [hk] at e1
    simp only [List.count_cons] at e1 e2 e3 ⊢
    have e4:(lfT (k+1) (.nd g kk')).count q=(lfT (k+1) (.nd g kk)).count q+if (a==q)=true then 1 else 0:=e3
    omega
   ·have e1:=h3 s'
    rw [downT_nd (updK_at ..)]
    split
    ·rename_i hc
     rw [Bool.and_eq_true] at hc
     exfalso
     have e2:(downT unmapV ix k s' g kk').2.1=kk:=congrArg Prod.fst e1
     rw [e2,(HF _ (hix _) g kk hk).1] at hc
     cases hc.2
    ·rw [updK_twice]
     have e2:(downT unmapV ix k s' g kk').2.1=kk:=congrArg Prod.fst e1
     have e3:(downT unmapV ix k s' g kk').2.2=0:=congrArg Prod.snd e1
     rw [e2,e3,← hk,updK_same]
  | no=>
   rcases hm:takC s with ⟨m,e,s1⟩
   have hd:downT (mapV a p b) ix (k+1) s f kids=if e≠0 then (s1,kids,e) else if (downT (mapV a p b) ix k s1 m.toNat noK).2.2=0 then (layC (downT (mapV a p b) ix k s1 m.toNat noK).1 f (ix (k+1)) (m.toNat*4096+1),updK kids (ix (k+1)) (.nd m.toNat (downT (mapV a p b) ix k s1 m.toNat noK).2.1),0) else (dnC (downT (mapV a p b) ix k s1 m.toNat noK).1 m.toNat,kids,(downT (mapV a p b) ix k s1 m.toNat noK).2.2):=by
    rw [downT,hk]
    simp only [hm]
    rw [if_neg (by simp [mapV])]
   rw [hd] at he ⊢
   by_cases h0:e≠0
   ·rw [if_pos h0] at he
    exact absurd he h0
   ·rw [if_neg h0] at he ⊢
    by_cases h1:(downT (mapV a p b) ix k s1 m.toNat noK).2.2=0
    ·rw [if_pos h1]
     simp only
     have hF:FullT k noK:=by
      cases k with
      | zero=>trivial
      | succ k=>exact fun i _ g' kk' hkk=>by cases hkk
     obtain ⟨q1,q2,q3⟩:=down_map hix k s1 m.toNat noK (fun i _=>shp_no _) hF (lookT_noK ix k) h1
     generalize (downT (mapV a p b) ix k s1 m.toNat noK).2.1=kk' at q1 q2 q3 ⊢
     refine ⟨by rw [lookT_nd (updK_at ..)];exact q1,perm_of fun q=>?_,fun s'=>?_⟩
     ·have e1:=P.l0 q
      have e2:=P.l1 (.nd m.toNat kk') q
      have e3:(lfT (k+1) (.nd m.toNat kk')).count q=(a::lfT (k+1) (.nd m.toNat noK)).count q:=q2.count_eq q
      rw [lfT_bare bare_noK] at e3
      rw [hk,lfT_no] at e1
      simp only [List.count_cons,List.count_nil] at e1 e2 e3 ⊢
      omega
     ·have e1:=q3 s'
      have e2:(downT unmapV ix k s' m.toNat kk').2.1=noK:=congrArg Prod.fst e1
      have e3:(downT unmapV ix k s' m.toNat kk').2.2=0:=congrArg Prod.snd e1
      rw [downT_nd (updK_at ..),e2,if_pos (by rw [bare_noK];rfl),updK_twice,e3]
      simp only
      rw [← hk,updK_same]
    ·rw [if_neg h1] at he
     exact absurd he h1
end
open Go.WideMaps Go.Maps Go.WideShapes Go.WideElems Go.MapKept Go.ChangeMaps
attribute [local go_sem] Oper.semAt_some
def lfV (a p:Nat)(b:Bool):Value:=.agg #[.int .i64 (a:Int),.int .u8 (p:Int),.bool b]
abbrev lfC (a p:Nat)(b:Bool):List Value:=[.int .i64 (a:Int),.int .u8 (p:Int),.bool b]
theorem CW.nR {w0 w:World}{F:Nat}{t:FT}{p g h c m b:Nat}{s:CC}{ws:List Nat}{E:TypeId}{cs:List Value}(H:CW w0 F t p g h c m s ws w)(hr:Row w b E cs)(h1:E≠135)(h2:E≠96)(h3:E≠36):¬ cS g h c m b:=by
 rintro (e|e|e|e)
 ·exact row_tys hr H.cache h1 e
 ·exact H.map.row hr e.symm
 ·exact row_tys hr H.pool.frames h2 e
 ·exact row_tys hr H.pool.words h3 e
theorem TW.off {w0 w w':World}{F:Nat}{t:FT}{p g h c m tb root:Nat}{fr:Bool}{s:CC}{ws:List Nat}{b:Nat}{cs:List Value}(H:TW w0 F t p g h c m tb s ws root fr w)(he:EX (fun k=>k=b) w w')(hr:Row w b 31 cs)(hb:w0.heap.size≤b):TW w0 F t p g h c m tb s ws root fr w':=by
 have h1:c≠b:=row_tys H.cw.cache hr (by decide)
 have h2:p≠b:=row_tys H.cw.pool.pool hr (by decide)
 have h3:g≠b:=row_tys H.cw.pool.frames hr (by decide)
 have h4:h≠b:=row_tys H.cw.pool.words hr (by decide)
 have h5:m≠b:=H.cw.map.row hr
 have h6:tb≠b:=row_tys H.tab hr (by decide)
 exact ⟨⟨he.row H.cw.cache h1,⟨he.row H.cw.pool.pool h2,he.row H.cw.pool.frames h3,he.row H.cw.pool.words h4,H.cw.pool.ok,H.cw.pool.n1,H.cw.pool.n2,H.cw.pool.wl,H.cw.pool.wb,H.cw.pool.c0⟩,H.cw.map.ex he h5,H.cw.files,he.below H.cw.low (fun k e=>e▸hb) H.cw.low.size,H.cw.lg,H.cw.lh,H.cw.lc,H.cw.lm,H.cw.few,H.cw.tb⟩,he.row H.tab h6,H.sz,H.lt⟩
section
variable {w0:World}{F:Nat}{t:FT}{p g h c m tb root:Nat}{fr:Bool}{v:Vis}{rd:Int→Int→List UInt8 × Int}{A:List Nat}{B:Int→List Nat}{Pr:CC→Prop}{Pc:Tr→Prop}{P0:World→Prop}{P1:Tr→World→Prop}{S:Nat→Prop}{fn:Nat}{caps:Array Value}{ix:Nat→Nat}
/-- The boxes of a table's pointer and of a leaf. -/
structure BoxL (tb bt bl la lp:Nat)(lb:Bool)(w:World):Prop where
 t:Row w bt 43 [.pointer (some ⟨tb,0,none⟩)]
 l:Row w bl 31 (lfC la lp lb)
set_option maxRecDepth 100000 in
set_option maxHeartbeats 4000000 in
theorem map1_any (hS:∀ b,cS g h c m b→S b)(bt bl la lp:Nat)(lb:Bool)(ha:la<1048576)(hp:lp≤7):
 LeafGo w0 F t p g h c m tb root fr (mapV la lp lb) rd A Pr (BoxL tb bt bl la lp lb) (fun _ _=>True) S 60 #[.pointer (some ⟨bt,0,none⟩),.pointer (some ⟨bl,0,none⟩)]:=by
 intro s f i ch R ws w H HB PRE _
 obtain ⟨hf,h0⟩:=PRE.good.at_ (List.mem_cons_self ..)
 have HH:=hid H
 have HLW:=hid (fun W=>leafWord_any la lp lb ha hp W)
 obtain ⟨X,hX⟩:∃ X,X=wdT (.lf la lp lb):=⟨_,rfl⟩
 rw [← hX] at HLW
 have HLY:=hid (fun (W:World) (hs:St w W)=>lay_any w0 F t p g h c m tb s ws root fr W (H.below hs) f i X hf h0 PRE.hi)
 have hbt:=HB.t.cell 0 (by simp)
 have hl0:=HB.l.cell 0 (by simp)
 have hl1:=HB.l.cell 1 (by simp)
 have hl2:=HB.l.cell 2 (by simp)
 simp only [lfC,List.getElem_cons_zero,List.getElem_cons_succ] at hbt hl0 hl1 hl2
 have Q0:∀ ww,EX (cS g h c m) w ww→ww.cell? ⟨bt,0,none⟩=some (.pointer (some ⟨tb,0,none⟩)):=fun ww hs=>hs.cell hbt (H.cw.nR HB.t (by decide) (by decide) (by decide))
 have L0:∀ ww,EX (cS g h c m) w ww→ww.cell? ⟨bl,0,none⟩=some (.int .i64 (la:Int)):=fun ww hs=>hs.cell hl0 (H.cw.nR HB.l (by decide) (by decide) (by decide))
 have L1:∀ ww,EX (cS g h c m) w ww→ww.cell? ⟨bl,1,none⟩=some (.int .u8 (lp:Int)):=fun ww hs=>hs.cell hl1 (H.cw.nR HB.l (by decide) (by decide) (by decide))
 have L2:∀ ww,EX (cS g h c m) w ww→ww.cell? ⟨bl,2,none⟩=some (.bool lb):=fun ww hs=>hs.cell hl2 (H.cw.nR HB.l (by decide) (by decide) (by decide))
 have hS0:EX (cS g h c m) w w.drew:=EX.drew (EX.refl _)
 show Calls _ _ _ _ fun e w'=>e=.returned (.int .i64 0)∧(∃ ws',TW w0 F t p g h c m tb (layC s f i (wdT (.lf la lp lb))) ws' root fr w')∧EX S w w'∧True
 rw [← hX]
 have HSS:=hid hS
 clear H HB PRE hf h0 hX hbt hl0 hl1 hl2 ha hp hS
 show Calls _ _ #[.int .i64 (f:Int),.int .i64 (i:Int),.pointer (some ⟨bt,0,none⟩),.pointer (some ⟨bl,0,none⟩)] _ _
 go_enter Tryz.func60,Tryz.ntmps60
 go_wp2_with fail
 go_region_held3 (EX (cS g h c m) w) (first|exact EX.drew _|exact EX.refl _|assumption) (first|(go_at_call 62;refine (HLW.out w.drew).mono ?_;rintro e' wx ⟨rfl,hbx⟩;have HS11:Hid (St w wx):=hid (St.step (St.drew w) hbx);have hS1:EX (cS g h c m) w wx:=EX.of_below HS11.out;clear hbx)|(go_at_call 61;refine (HLY.out _ HS11.out).mono ?_;rintro e' wy ⟨rfl,hty,hey⟩;have HTY:=hid hty;have hS2:EX (cS g h c m) w wy:=(EX.of_below HS11.out).trans hey;clear hty hey))
 have HEY:=hid hS2
 go_wp2_with fail
 go_ret
 exact ⟨rfl,⟨ws,HTY.out⟩,HEY.out.mono fun b _ hb=>HSS.out b hb,trivial⟩
theorem tup_any (s:CC)(a:Nat)(hx ws:List Nat)(w:World)(H:TW w0 F t p g h c m tb s ws root fr w)(G:Good rd s hx)(hl:hx.length≤1000000000):
 Calls Tryz.prog 57 #[.pointer (some ⟨p,0,none⟩),.int .i64 (a:Int)] w fun e w'=>(∃ er,e=.returned (.int .i64 er))∧TW w0 F t p g h c m tb (upC s a) ws root fr w'∧EX (cS g h c m) w w':=by
 refine (up_any p g h s.fs ws (a:Int) w H.cw.pool (fun x hx'=>by
  have h1:=G.small x hx'
  have h2:=H.cw.few
  omega)).mono ?_
 rintro e w' ⟨rfl,hp,he⟩
 exact ⟨⟨_,rfl⟩,H.call (H.cw.pool1 hp he).1 (H.cw.pool1 hp he).2,(H.cw.pool1 hp he).2⟩
theorem tdn_any (s:CC)(a:Nat)(hx ws:List Nat)(w:World)(H:TW w0 F t p g h c m tb s ws root fr w)(G:Good rd s hx)(hl:hx.length≤1000000000):
 Calls Tryz.prog 31 #[.pointer (some ⟨p,0,none⟩),.int .i64 (a:Int)] w fun e w'=>(∃ er,e=.returned (.int .i64 er))∧(∃ ws',TW w0 F t p g h c m tb (dnC s a) ws' root fr w')∧EX (cS g h c m) w w':=by
 refine (down_any p g h s.fs ws (a:Int) w H.cw.pool (fun x hx'=>by
  have h1:=G.small x hx'
  have h2:=H.cw.few
  omega)).mono ?_
 rintro e w' ⟨rfl,⟨ws',hp⟩,he⟩
 exact ⟨⟨_,rfl⟩,⟨ws',H.call (H.cw.pool1 hp he).1 (H.cw.pool1 hp he).2⟩,(H.cw.pool1 hp he).2⟩
/-- What the closure that is handed to atLeaf does with a leaf. -/
def DoGo (w0:World)(F:Nat)(t:FT)(p g h c m tb root:Nat)(fr:Bool)(v:Vis)(rd:Int→Int→List UInt8 × Int)(A:List Nat)(Pr:CC→Prop)(P0:World→Prop)(P1:Tr→World→Prop)(S:Nat→Prop)(fn:Nat)(caps:Array Value):Prop:=
 ∀ (s:CC) (f i a q:Nat) (b:Bool) (R ws:List Nat) (wr:World),TW w0 F t p g h c m tb s ws root fr wr→P0 wr→LPre rd A s f i (.lf a q b) R→Pr s→
  Calls Tryz.prog fn (#[.int .i64 (f:Int),.int .i64 (i:Int),.int .u64 ((wdT (.lf a q b):Nat):Int)]++caps) wr fun e w'=>e=.returned (.tuple #[])∧(∃ ws',TW w0 F t p g h c m tb (v.leaf s f i (.lf a q b)).1 ws' root fr w')∧EX S wr w'∧P1 (.lf a q b) w'
theorem LPre.leaf {s:CC}{f i a q:Nat}{b:Bool}{R:List Nat}(H:LPre rd A s f i (.lf a q b) R)(hl:s.fs.length≤1024):a<1048576∧q≤7:=by
 have:=H.holds.1
 exact ⟨by omega,H.holds.2⟩
set_option maxRecDepth 100000 in
set_option maxHeartbeats 4000000 in
theorem unmap1_any (hS:∀ b,cS g h c m b→S b)(bt:Nat):
 DoGo w0 F t p g h c m tb root fr unmapV rd [] Pr (fun w=>Row w bt 43 [.pointer (some ⟨tb,0,none⟩)]) (fun _ _=>True) S 73 #[.pointer (some ⟨bt,0,none⟩)]:=by
 intro s f i a q b R ws w H HB PRE _
 obtain ⟨hf,h0⟩:=PRE.good.at_ (List.mem_cons_self ..)
 obtain ⟨ha,hq⟩:=PRE.leaf H.cw.pool.n2
 have HLY:=hid (lay_any w0 F t p g h c m tb s ws root fr w H f i 0 hf h0 PRE.hi)
 have hx:=wdT_lt (cp:=b) ha hq
 have HFO:=hid (fun W=>frameOf_any _ hx W)
 rw [show wdT (.lf a q b)/4096=a by rw [wdT_lf];cases b <;> simp <;> omega] at HFO
 have HG:=hid (show Good rd (layC s f i 0) (f::(lfT 0 (.lf a q b)++([]++R))) from PRE.good.lay (List.mem_cons_self ..) PRE.off PRE.hi)
 have HFEW:=hid PRE.few
 have HNR:=hid (H.cw.nR HB (by decide) (by decide) (by decide))
 have HBB:=hid HB
 have HSS:=hid hS
 have hbt:=HB.cell 0 (by simp)
 have hbl:=HB.lt
 simp only [List.getElem_cons_zero] at hbt
 show Calls _ _ _ _ fun e w'=>e=.returned (.tuple #[])∧(∃ ws',TW w0 F t p g h c m tb (dnC (layC s f i 0) a) ws' root fr w')∧EX S w w'∧True
 generalize wdT (.lf a q b)=X at *
 clear H HB PRE hf h0 ha hq hS hx
 show Calls _ _ #[.int .i64 (f:Int),.int .i64 (i:Int),.int .u64 (X:Int),.pointer (some ⟨bt,0,none⟩)] _ _
 go_enter Tryz.func73,Tryz.ntmps73
 go_wp2_with fail
 refine (HLY.out).mono ?_
 rintro e w1 ⟨rfl,ht1,he1⟩
 have HT1:=hid ht1
 have HE1:=hid he1
 have HB1:=he1.row HBB.out HNR.out
 clear ht1 he1 hbt hbl
 have hbt:=HB1.cell 0 (by simp)
 have hbl:=HB1.lt
 simp only [List.getElem_cons_zero] at hbt
 have HPO:=hid (tpool_any w0 F t p g h c m tb (layC s f i 0) ws root fr w1 HT1.out)
 have HDN:=hid (tdn_any (layC s f i 0) a _ ws w1 HT1.out HG.out (by have:=HFEW.out;omega))
 clear HB1
 go_wp2_with fail
 refine (HPO.out).mono ?_
 rintro e w2 ⟨rfl,rfl⟩
 go_wp2_with fail
 refine (HFO.out _).mono ?_
 rintro e w2 ⟨rfl,rfl⟩
 go_wp2_with fail
 refine (HDN.out).mono ?_
 rintro e w2 ⟨⟨er,rfl⟩,ht2,he2⟩
 have HT2:=hid ht2
 have HE2:=hid he2
 clear ht2 he2 hbt hbl
 go_wp2_with fail
 exact bodyPost_end (results_none rfl _ _ _) rfl ⟨rfl,HT2.out,(HE1.out.trans HE2.out).mono fun b _ hb=>HSS.out b hb,trivial⟩
set_option maxRecDepth 100000 in
set_option maxHeartbeats 4000000 in
theorem set1_any (hS:∀ b,cS g h c m b→S b)(bt bl la lp:Nat)(lb:Bool)(hla:la<1048576)(hp:lp≤7):
 DoGo w0 F t p g h c m tb root fr (setV la lp lb) rd [] (TakenF la) (BoxL tb bt bl la lp lb) (fun _ _=>True) S 75 #[.pointer (some ⟨bt,0,none⟩),.pointer (some ⟨bl,0,none⟩)]:=by
 intro s f i a q b R ws w H HB PRE TK
 obtain ⟨ha,hq⟩:=PRE.leaf H.cw.pool.n2
 have hx:=wdT_lt (cp:=b) ha hq
 have HFO:=hid (fun W=>frameOf_any _ hx W)
 rw [show wdT (.lf a q b)/4096=a by rw [wdT_lf];cases b <;> simp <;> omega] at HFO
 obtain ⟨hta,hta0⟩:=TK
 have HG1:=hid (show Good rd (upC s la) (la::(f::(lfT 0 (.lf a q b)++([]++R)))) from PRE.good.up hta hta0)
 obtain ⟨hf,h0⟩:=HG1.out.at_ (show f∈la::(f::(lfT 0 (.lf a q b)++([]++R))) by simp)
 have HLW:=hid (fun W=>leafWord_any la lp lb hla hp W)
 obtain ⟨X,hX⟩:∃ X,X=wdT (.lf la lp lb):=⟨_,rfl⟩
 rw [← hX] at HLW
 have HG2:=hid (show Good rd (layC (upC s la) f i X) (la::(f::(lfT 0 (.lf a q b)++([]++R)))) from HG1.out.lay (by simp) PRE.off PRE.hi)
 have HH:=hid H
 have HPO:=hid (fun W hT=>tpool_any w0 F t p g h c m tb s ws root fr W hT)
 have HFEW:=hid PRE.few
 have HUP:=hid (tup_any s la _ ws w.drew (H.below (bdN (Below.refl _ _) 1)) PRE.good (by have:=HFEW.out;omega))
 have HLY:=hid (fun (W:World) (hT:TW w0 F t p g h c m tb (upC s la) ws root fr W)=>lay_any w0 F t p g h c m tb (upC s la) ws root fr W hT f i X hf h0 PRE.hi)
 have HNT:=hid (H.cw.nR HB.t (by decide) (by decide) (by decide))
 have HNL:=hid (H.cw.nR HB.l (by decide) (by decide) (by decide))
 have HBB:=hid HB
 have HSS:=hid hS
 have HCE:=hid (fun ww (hs:EX (cS g h c m) w ww)=>show (ww.cell? ⟨bt,0,none⟩=some (.pointer (some ⟨tb,0,none⟩))∧ww.cell? ⟨bl,0,none⟩=some (.int .i64 (la:Int)))∧(ww.cell? ⟨bl,1,none⟩=some (.int .u8 (lp:Int))∧ww.cell? ⟨bl,2,none⟩=some (.bool lb)) from
  ⟨⟨(hs.row HBB.out.t HNT.out).cell 0 (by simp),(hs.row HBB.out.l HNL.out).cell 0 (by simp)⟩,(hs.row HBB.out.l HNL.out).cell 1 (by simp),(hs.row HBB.out.l HNL.out).cell 2 (by simp)⟩)
 show Calls _ _ _ _ fun e w'=>e=.returned (.tuple #[])∧(∃ ws',TW w0 F t p g h c m tb (dnC (layC (upC s la) f i (wdT (.lf la lp lb))) a) ws' root fr w')∧EX S w w'∧True
 rw [← hX]
 generalize wdT (.lf a q b)=Y at *
 clear H HB PRE hf h0 ha hq hS hx hX hta hta0 hla hp
 have Q0:∀ ww,EX (cS g h c m) w ww→ww.cell? ⟨bt,0,none⟩=some (.pointer (some ⟨tb,0,none⟩)):=fun ww hs=>(HCE.out ww hs).1.1
 have L0:∀ ww,EX (cS g h c m) w ww→ww.cell? ⟨bl,0,none⟩=some (.int .i64 (la:Int)):=fun ww hs=>(HCE.out ww hs).1.2
 have hS0:EX (cS g h c m) w w.drew:=EX.drew (EX.refl _)
 have HPO1:=hid (HPO.out w.drew (HH.out.below (bdN (Below.refl _ _) 1)))
 show Calls _ _ #[.int .i64 (f:Int),.int .i64 (i:Int),.int .u64 (Y:Int),.pointer (some ⟨bt,0,none⟩),.pointer (some ⟨bl,0,none⟩)] _ _
 go_enter Tryz.func75,Tryz.ntmps75
 go_wp2_with fail
 go_region_held3 (EX (cS g h c m) w) (first|exact EX.drew _|exact EX.refl _|assumption) (first|(go_at_call 56;refine (HPO1.out).mono ?_;rintro e' wx ⟨rfl,rfl⟩)|(go_at_call 57;refine (HUP.out).mono ?_;rintro e' wy ⟨⟨er,rfl⟩,hty,hey⟩;have HTU:=hid hty;have hS2:EX (cS g h c m) w wy:=hS0.trans hey;clear hty hey))
 rename World=>wU
 have HEU:=hid hS2
 clear Q0 L0 hS0 hS2 HPO1 HUP
 have hS0:EX (cS g h c m) wU wU.drew:=EX.drew (EX.refl _)
 have Q0:∀ ww,EX (cS g h c m) wU ww→ww.cell? ⟨bt,0,none⟩=some (.pointer (some ⟨tb,0,none⟩)):=fun ww hs=>(HCE.out ww (HEU.out.trans hs)).1.1
 have L0:∀ ww,EX (cS g h c m) wU ww→ww.cell? ⟨bl,0,none⟩=some (.int .i64 (la:Int)):=fun ww hs=>(HCE.out ww (HEU.out.trans hs)).1.2
 have L1:∀ ww,EX (cS g h c m) wU ww→ww.cell? ⟨bl,1,none⟩=some (.int .u8 (lp:Int)):=fun ww hs=>(HCE.out ww (HEU.out.trans hs)).2.1
 have L2:∀ ww,EX (cS g h c m) wU ww→ww.cell? ⟨bl,2,none⟩=some (.bool lb):=fun ww hs=>(HCE.out ww (HEU.out.trans hs)).2.2
 go_wp2_with fail
 go_region_held3 (EX (cS g h c m) wU) (first|exact EX.drew _|exact EX.refl _|assumption) (first|(go_at_call 62;refine (HLW.out wU.drew).mono ?_;rintro e' wx ⟨rfl,hbx⟩;have HS11:Hid (St wU wx):=hid (St.step (St.drew wU) hbx);have hS1:EX (cS g h c m) wU wx:=EX.of_below HS11.out;clear hbx)|(go_at_call 61;refine (HLY.out _ (HTU.out.below HS11.out)).mono ?_;rintro e' wy ⟨rfl,hty,hey⟩;have HTY:=hid hty;have hS2:EX (cS g h c m) wU wy:=(EX.of_below HS11.out).trans hey;clear hty hey))
 rename World=>wV
 have HEV:=hid (HEU.out.trans hS2)
 clear Q0 L0 L1 L2 hS0 hS2 HLY HLW
 have hq0:=(HCE.out _ HEV.out).1.1
 have hql:=(HEV.out.row HBB.out.t HNT.out).lt
 have HPO2:=hid (tpool_any w0 F t p g h c m tb _ ws root fr _ HTY.out)
 have HDN:=hid (tdn_any _ a _ ws _ HTY.out HG2.out (by have:=HFEW.out;simp only [List.length_cons] at this ⊢;omega))
 go_wp2_with fail
 refine (HPO2.out).mono ?_
 rintro e w2 ⟨rfl,rfl⟩
 go_wp2_with fail
 refine (HFO.out _).mono ?_
 rintro e w2 ⟨rfl,rfl⟩
 go_wp2_with fail
 refine (HDN.out).mono ?_
 rintro e w2 ⟨⟨er,rfl⟩,ht2,he2⟩
 have HT2:=hid ht2
 have HE2:=hid he2
 clear ht2 he2 hq0 hql
 go_wp2_with fail
 exact bodyPost_end (results_none rfl _ _ _) rfl ⟨rfl,HT2.out,(HEV.out.trans HE2.out).mono fun b _ hb=>HSS.out b hb,trivial⟩
def FndP (bf:Nat)(ch:Tr)(w:World):Prop:=match ch with
 | .lf a q b=>Row w bf 31 (lfC a q b)
 | _=>Row w bf 31 (lfC 0 0 false)
theorem FndP.ex {bf:Nat}{ch:Tr}{w w':World}{S:Nat→Prop}(h:FndP bf ch w)(he:EX S w w')(hn:¬ S bf):FndP bf ch w':=by
 cases ch with
 | no=>exact he.row h hn
 | nd _ _=>exact he.row h hn
 | lf a q b=>exact he.row h hn
set_option maxRecDepth 100000 in
set_option maxHeartbeats 4000000 in
theorem find1_any (bf:Nat)(hSf:S bf)(hbf:w0.heap.size≤bf):
 DoGo w0 F t p g h c m tb root fr findV rd [] Pr (fun w=>Row w bf 31 (lfC 0 0 false)) (FndP bf) S 64 #[.pointer (some ⟨bf,0,none⟩)]:=by
 intro s f i a q b R ws w H HB PRE _
 obtain ⟨ha,hq⟩:=PRE.leaf H.cw.pool.n2
 have HLO:=hid (leafOf_any a q b ha hq w)
 have HH:=hid H
 have HBB:=hid HB
 have HNR:=hid (H.cw.nR HB (by decide) (by decide) (by decide))
 have HNT:=hid (row_tys H.tab HB (by decide))
 show Calls _ _ _ _ fun e w'=>e=.returned (.tuple #[])∧(∃ ws',TW w0 F t p g h c m tb s ws' root fr w')∧EX S w w'∧Row w' bf 31 (lfC a q b)
 generalize wdT (.lf a q b)=X at *
 have HSF:=hid hSf
 have HBF:=hid hbf
 clear H HB PRE ha hq hSf hbf
 show Calls _ _ #[.int .i64 (f:Int),.int .i64 (i:Int),.int .u64 (X:Int),.pointer (some ⟨bf,0,none⟩)] _ _
 go_enter Tryz.func64,Tryz.ntmps64
 go_wp2_with fail
 refine (HLO.out).mono ?_
 rintro e w1 ⟨rfl,hb1⟩
 have HB1:=hid hb1
 have HR1:=hid (HBB.out.below hb1 HBB.out.lt)
 clear hb1
 have f0:=HR1.out.frozen 0
 have f1:=HR1.out.frozen 1
 have f2:=HR1.out.frozen 2
 obtain ⟨g0,g1,g2⟩:w1.cell? ⟨bf,0,none⟩=some (.int .i64 0)∧w1.cell? ⟨bf,1,none⟩=some (.int .u8 0)∧w1.cell? ⟨bf,2,none⟩=some (.bool false):=⟨HR1.out.cell 0 (by simp),HR1.out.cell 1 (by simp),HR1.out.cell 2 (by simp)⟩
 have hrl:=HR1.out.lt
 go_wp2_with fail
 have he3:EX (fun k=>k=bf) w1 (((w1.setCell ⟨bf,0,none⟩ (.int .i64 (a:Int))).setCell ⟨bf,1,none⟩ (.int .u8 (q:Int))).setCell ⟨bf,2,none⟩ (.bool b)):=(((EX.refl (S:=fun k=>k=bf) w1).set (g:=bf) (.inl rfl) 0 _).set (g:=bf) (.inl rfl) 1 _).set (g:=bf) (.inl rfl) 2 _
 have hr3:Row (((w1.setCell ⟨bf,0,none⟩ (.int .i64 (a:Int))).setCell ⟨bf,1,none⟩ (.int .u8 (q:Int))).setCell ⟨bf,2,none⟩ (.bool b)) bf 31 (lfC a q b):=((HR1.out.set 0 (.int .i64 (a:Int))).set 1 (.int .u8 (q:Int))).set 2 (.bool b)
 have h1:=HH.out.below HB1.out
 refine bodyPost_end (results_none rfl _ _ _) rfl ⟨rfl,⟨ws,h1.off he3 HR1.out HBF.out⟩,(EX.of_below HB1.out).trans (he3.mono fun k _ e=>e▸HSF.out),hr3⟩
end
section
variable {w0:World}{F:Nat}{t:FT}{p g h c m tb root:Nat}{fr:Bool}{v:Vis}{rd:Int→Int→List UInt8 × Int}{A:List Nat}{B:Int→List Nat}{Pr:CC→Prop}{Pc:Tr→Prop}{P0:World→Prop}{P1:Tr→World→Prop}{S:Nat→Prop}{fn:Nat}{caps:Array Value}{ix:Nat→Nat}
/-- The boxes of a table's pointer and of the closure. -/
structure BoxD (tb bt bd fn:Nat)(caps:Array Value)(w:World):Prop where
 t:Row w bt 43 [.pointer (some ⟨tb,0,none⟩)]
 d:Row w bd 109 [.func (.func fn) #[] caps]
theorem LPre.wl {s:CC}{f i:Nat}{ch:Tr}{R:List Nat}(H:LPre rd A s f i ch R)(hl:s.fs.length≤1024):wdT ch<1152921504606846976:=by
 refine wdT_lt2 H.holds hl fun q kk e=>?_
 have:=H.holds
 rw [e] at this
 exact this.elim
set_option maxRecDepth 100000 in
set_option maxHeartbeats 4000000 in
theorem atLeaf1_any (_hS:∀ b,cS g h c m b→S b)(hen:Enters fn)(bt bd:Nat)(hv0:∀ s f i,v.leaf s f i .no=(s,.no,6))(hv1:∀ s f i a q b,(v.leaf s f i (.lf a q b)).2.2=0)(h01:∀ w,P0 w→P1 .no w)(hP0:∀ w w',EX (cS g h c m) w w'→P0 w→P0 w')
 (DG:DoGo w0 F t p g h c m tb root fr v rd A Pr P0 P1 S fn caps):
 LeafGo w0 F t p g h c m tb root fr v rd A Pr (fun w=>P0 w∧BoxD tb bt bd fn caps w) P1 S 110 #[.pointer (some ⟨bt,0,none⟩),.pointer (some ⟨bd,0,none⟩)]:=by
 intro s f i ch R ws w H HP PRE hpr
 obtain ⟨hp0,HB⟩:=HP
 obtain ⟨hf,h0⟩:=PRE.good.at_ (List.mem_cons_self ..)
 have hx:=PRE.wl H.cw.pool.n2
 have HWO:=hid (word_any w0 F t p g h c m tb s ws root fr w H f i _ PRE.wd (fun _=>h0) PRE.hi (by omega))
 have hbt:=HB.t.cell 0 (by simp)
 simp only [List.getElem_cons_zero] at hbt
 have hbl:=HB.t.lt
 have HBB:=hid HB
 have HH:=hid H
 have hent:=hen
 unfold Enters at hent
 have HP0:=hid hp0
 have HQ0:=hid hP0
 have H01:=hid h01
 have hnd:∀ q kk,ch≠.nd q kk:=fun q kk e=>by
  have:=PRE.holds
  rw [e] at this
  exact this.elim
 show Calls _ _ #[.int .i64 (f:Int),.int .i64 (i:Int),.pointer (some ⟨bt,0,none⟩),.pointer (some ⟨bd,0,none⟩)] _ _
 cases ch with
 | nd q kk=>exact absurd rfl (hnd q kk)
 | no=>
  rw [hv0]
  clear H HB PRE hf h0 hx hp0 hP0 h01 hv0 hv1 DG hnd
  go_enter Tryz.func110,Tryz.ntmps110
  go_wp2_with fail
  refine (HWO.out).mono ?_
  rintro e w1 ⟨rfl,hb1⟩
  have HB1:=hid hb1
  clear hb1
  have d1:(((wdT Tr.no:Nat):Int)==(0:Int))=true:=rfl
  simp only [wdT] at d1 ⊢
  go_wp2_with fail
  go_ret
  exact ⟨rfl,⟨ws,HH.out.below HB1.out⟩,EX.of_below HB1.out,H01.out _ (HQ0.out _ _ (EX.of_below HB1.out) HP0.out)⟩
 | lf a q b=>
  have HV1:=hid (hv1 s f i a q b)
  have HDG:=hid (fun W (hb:Below w.heap.size w W)=>DG s f i a q b R ws W (H.below hb) (hP0 _ _ (EX.of_below hb) hp0) PRE hpr)
  have hxp:0<wdT (.lf a q b):=by rw [wdT_lf];omega
  have d1:(((wdT (.lf a q b):Nat):Int)==(0:Int))=false:=by simp;omega
  generalize wdT (.lf a q b)=X at *
  clear H HB PRE hf h0 hx hp0 hP0 h01 hv0 hv1 DG hnd hxp
  go_enter Tryz.func110,Tryz.ntmps110
  go_wp2_with fail
  refine (HWO.out).mono ?_
  rintro e w1 ⟨rfl,hb1⟩
  have HB1:=hid hb1
  have HR1:=hid (HBB.out.d.below hb1 HBB.out.d.lt)
  clear hb1
  have hbd:=HR1.out.cell 0 (by simp)
  simp only [List.getElem_cons_zero] at hbd
  have hbdl:=HR1.out.lt
  go_wp2_with fail
  refine (HDG.out w1 HB1.out).mono ?_
  rintro e w2 ⟨rfl,ht2,he2,hp2⟩
  have HT2:=hid ht2
  have HE2:=hid he2
  have HP2:=hid hp2
  clear ht2 he2 hp2 hbd hbdl
  go_wp2_with fail
  go_ret
  exact ⟨by rw [HV1.out];rfl,HT2.out,(EX.of_below HB1.out).trans HE2.out,HP2.out⟩
theorem enters_al1:Enters 110:=fun _ _=>by kernel_rfl
set_option maxRecDepth 100000 in
set_option maxHeartbeats 4000000 in
theorem atLeaf_any (hS:∀ b,cS g h c m b→S b)(hen:Enters fn)(hgr:v.grow=false)(hv0:∀ s f i,v.leaf s f i .no=(s,.no,6))(hv1:∀ s f i a q b,(v.leaf s f i (.lf a q b)).2.2=0)(h01:∀ w,P0 w→P1 .no w)(hP0:∀ w w',EX (cS g h c m) w w'→P0 w→P0 w')(hP1:∀ ch w w',EX (cS g h c m) w w'→P1 ch w→P1 ch w')
 (LO:LeafOk v rd [] (fun _=>[]) Pr (fun _=>True)) (DG:DoGo w0 F t p g h c m tb root fr v rd [] Pr P0 P1 S fn caps)
 (s:CC) (kids:Nat→Tr) (R ws:List Nat) (ad:Nat) (had:ad<18446744073709551616) (w:World) (hNB:∀ b,S b→b<w.heap.size) (hSt:¬ S tb) (H:TW w0 F t p g h c m tb s ws root fr w) (h0:P0 w) (T:TI rd s 3 root kids R) (hp:Pr s) (hN:(hxT 3 root kids++R).length+3≤3000000):
 Calls Tryz.prog 63 #[.pointer (some ⟨tb,0,none⟩),.int .u64 (ad:Int),.bool v.prune,.func (.func fn) #[] caps] w (DownP w0 F t p g h c m tb root fr P1 S (downT v (ixOf ad) 3 s root kids) (lookT (ixOf ad) 3 kids) w):=by
 obtain ⟨w2,hw2⟩:∃ w2,w2=(w.alloc (.cells #[.pointer (some ⟨tb,0,none⟩)] 43)).alloc (.cells #[.func (.func fn) #[] caps] 109):=⟨_,rfl⟩
 have HB2:=hid (show Below w.heap.size w w2 by rw [hw2];exact bthen (bal _) (bal _))
 have HR2:=hid (show BoxD tb w.heap.size (w.heap.size+1) fn caps w2 by
  rw [hw2]
  refine ⟨(Row.new w 43 [.pointer (some ⟨tb,0,none⟩)]).alloc _,?_⟩
  have:=Row.new (w.alloc (.cells #[.pointer (some ⟨tb,0,none⟩)] 43)) 109 [.func (.func fn) #[] caps]
  rw [World.size_alloc] at this
  exact this)
 have H2:=hid (H.below HB2.out)
 have HSP:=hid (fun W=>split_any ad had W)
 have HW2:=hid hw2
 have HNT:=hid (H2.out.cw.nR HR2.out.t (by decide) (by decide) (by decide))
 have HND:=hid (H2.out.cw.nR HR2.out.d (by decide) (by decide) (by decide))
 have HDN:=hid (fun (W:World) (hs:St w2 W)=>tdown_any (P0:=fun w'=>P0 w'∧BoxD tb w.heap.size (w.heap.size+1) fn caps w') (P1:=P1) (ix:=ixOf ad) enters_al1 hS (fun W1 W2 he hh=>⟨hP0 _ _ he hh.1,he.row hh.2.t HNT.out,he.row hh.2.d HND.out⟩) hP1 LO (fun _=>Nat.le_refl _) (ixOf_lt ad) w.heap.size hNB (fun W hh=>h01 W hh.1)
  (atLeaf1_any hS hen w.heap.size (w.heap.size+1) hv0 hv1 h01 hP0 DG) 3 (by omega) 4 s root kids R ws W (by omega) (by have:=HB2.out.size;have:=hs.size;omega) (H2.out.below hs) ⟨hP0 _ _ (EX.of_below (HB2.out.trans (hs.mono HB2.out.size))) h0,HR2.out.t.below hs HR2.out.t.lt,HR2.out.d.below hs HR2.out.d.lt⟩ (by rw [List.nil_append];exact T) hp trivial (by rw [List.nil_append];exact hN))
 rw [hgr] at HDN
 have hbt:=HR2.out.t.cell 0 (by simp)
 simp only [List.getElem_cons_zero] at hbt
 obtain ⟨q0,q1,q2⟩:=H2.out.cells
 have Q0:∀ ww,EX S w2 ww→ww.cell? ⟨w.heap.size,0,none⟩=some (.pointer (some ⟨tb,0,none⟩)):=fun ww hs=>hs.cell hbt (fun e=>Nat.lt_irrefl _ (hNB _ e))
 have Q1:∀ ww,EX S w2 ww→ww.cell? ⟨tb,1,none⟩=some (.int .i64 (root:Int)):=fun ww hs=>hs.cell q1 hSt
 clear hw2 H h0 T hp hN hNB hS hen hv0 hv1 h01 hP0 hP1 LO DG hbt q0 q1 q2 had hgr
 unfold visC at HDN
 go_enter Tryz.func63,Tryz.ntmps63
 go_wp2_with fail
 rw [← HW2.out]
 have hS0:EX S w2 w2.drew:=EX.drew (EX.refl _)
 go_region_held3 (EX S w2) (first|exact EX.drew _|exact EX.refl _|assumption) (first|(go_at_call 59;refine (HSP.out w2.drew).mono ?_;rintro e' wx ⟨rfl,hbx⟩;have HS11:Hid (St w2 wx):=hid (St.step (St.drew w2) hbx);have hS1:EX S w2 wx:=EX.of_below HS11.out;clear hbx)|(go_at_call 58;refine (HDN.out _ HS11.out).mono ?_;rintro e' wy ⟨rfl,hty,hey,hpy⟩;have HTY:=hid hty;have HPY:=hid hpy;have hS2:EX S w2 wy:=(EX.of_below HS11.out).trans hey;clear hty hey hpy))
 all_goals have HEY:=hid hS2
 all_goals clear hS2 Q0 Q1
 all_goals go_wp2_with fail
 all_goals go_ret
 all_goals exact ⟨rfl,HTY.out,(EX.of_below HB2.out).trans HEY.out,HPY.out⟩
end
theorem EX.new {S:Nat→Prop}{w w2 w3:World}{b:Nat}(h:EX S w w2)(k:EX (fun k=>k=b) w2 w3)(hb:w.heap.size≤b):EX S w w3:=
 ⟨k.os.trans h.os,k.tape.trans h.tape,k.output.trans h.output,Nat.le_trans h.size k.size,fun j hj hn=>(k.block j (Nat.lt_of_lt_of_le hj h.size) (by omega)).trans (h.block j hj hn)⟩
def ldV:Tr→Value
 | .lf a q b=>lfV a q b
 | _=>lfV 0 0 false
def fndL (ad:Nat)(ch:Tr):Tr:=if ad<140737488355328 then ch else .no
def fndE (ad:Nat)(ch:Tr):Int:=if ad<140737488355328 then (if isNo ch then 6 else 0) else 1
abbrev RES:=CC × (Nat→Tr) × Int
def unmR (s:CC)(root:Nat)(kids:Nat→Tr)(ad:Nat):RES:=if ad<140737488355328 then downT unmapV (ixOf ad) 3 s root kids else (s,kids,1)
def rightB (s:CC)(a q:Int):Bool:=decide (q≤7)&&decide (0<cntF s.fs a)
def setR (s:CC)(root:Nat)(kids:Nat→Tr)(ad:Nat)(a q:Int)(b:Bool):RES:=if ad<140737488355328∧rightB s a q=true then downT (setV a.toNat q.toNat b) (ixOf ad) 3 s root kids else (s,kids,1)
theorem rightB_is {s:CC}{a q:Int}(h:rightB s a q=true)(hq:0≤q):∃ k r:Nat,a=(k:Int)∧q=(r:Int)∧r≤7∧TakenF k s:=by
 unfold rightB at h
 rw [Bool.and_eq_true,decide_eq_true_eq,decide_eq_true_eq] at h
 obtain ⟨k,hk,rfl,hc⟩:=cnt_is (show cntF s.fs a≠0 by omega)
 exact ⟨k,q.toNat,rfl,by omega,by omega,hk,by omega⟩
def TabP (w0:World)(F:Nat)(t:FT)(p g h c m tb root:Nat)(fr:Bool)(r:RES)(w:World)(e:Ending)(w':World):Prop:=
 e=.returned (.int .i64 r.2.2)∧(∃ ws',TW w0 F t p g h c m tb r.1 ws' root fr w')∧EX (cS g h c m) w w'
section
variable {w0:World}{F:Nat}{t:FT}{p g h c m tb root:Nat}{rd:Int→Int→List UInt8 × Int}
set_option maxRecDepth 100000 in
set_option maxHeartbeats 4000000 in
theorem rightLeaf_any (s:CC)(a q:Int)(b:Bool)(ws:List Nat)(fr:Bool)(w:World)(H:TW w0 F t p g h c m tb s ws root fr w):
 Calls Tryz.prog 55 #[.pointer (some ⟨tb,0,none⟩),.agg #[.int .i64 a,.int .u8 q,.bool b]] w fun e w'=>e=.returned (.bool (rightB s a q))∧Below w.heap.size w w':=by
 obtain ⟨w1,hw1⟩:∃ w1,w1=w.alloc (.cells #[.int .i64 a,.int .u8 q,.bool b] 31):=⟨_,rfl⟩
 have HB1:=hid (show Below w.heap.size w w1 by rw [hw1];exact bal _)
 have HR1:=hid (show Row w1 w.heap.size 31 [.int .i64 a,.int .u8 q,.bool b] by rw [hw1];exact Row.new w _ _)
 have H1:=hid (H.below HB1.out)
 have HW1:=hid hw1
 have HPO:=hid (fun n=>tpool_any w0 F t p g h c m tb s ws root fr (w1.drewN n) (H1.out.below (bdN (Below.refl _ _) n)))
 have HCN:=hid (fun n=>count_any p g h s.fs ws a (w1.drewN n) (H1.out.below (bdN (Below.refl _ _) n)).cw.pool)
 clear H hw1
 obtain ⟨g0,g1,g2⟩:w1.cell? ⟨w.heap.size,0,none⟩=some (.int .i64 a)∧w1.cell? ⟨w.heap.size,1,none⟩=some (.int .u8 q)∧w1.cell? ⟨w.heap.size,2,none⟩=some (.bool b):=⟨HR1.out.cell 0 (by simp),HR1.out.cell 1 (by simp),HR1.out.cell 2 (by simp)⟩
 have hrl:=HR1.out.lt
 by_cases hq:q≤7
 ·have d1:decide (q≤7)=true:=decide_eq_true hq
  have HR:=hid (show rightB s a q=decide (0<cntF s.fs a) by unfold rightB;rw [d1];rfl)
  rw [HR.out]
  generalize cntF s.fs a=n at *
  clear hq
  go_enter Tryz.func55,Tryz.ntmps55
  go_wp2_with fail
  rw [← HW1.out]
  go_quiet ((first|(go_at_call 56;exact Calls.quiet_of_same ((HPO.out _).mono (fun _ _ h=>⟨h.1,h.2.symm⟩)))|(go_at_call 15;exact Calls.quiet_of_same ((HCN.out _).mono (fun _ _ h=>⟨h.1,h.2.symm⟩)))))
  go_wp2_with fail
  go_ret
  exact ⟨rfl,bdN HB1.out _⟩
 ·have d1:decide (q≤7)=false:=decide_eq_false hq
  have HR:=hid (show rightB s a q=false by unfold rightB;rw [d1];rfl)
  rw [HR.out]
  clear hq
  go_enter Tryz.func55,Tryz.ntmps55
  go_wp2_with fail
  rw [← HW1.out]
  go_quiet (fail)
  go_wp2_with fail
  go_ret
  exact ⟨rfl,bdN HB1.out _⟩
theorem enters_un1:Enters 73:=fun _ _=>by kernel_rfl
theorem enters_se1:Enters 75:=fun _ _=>by kernel_rfl
theorem enters_fi1:Enters 64:=fun _ _=>by kernel_rfl
theorem enters_ma1:Enters 60:=fun _ _=>by kernel_rfl
theorem CW.cSlt {w:World}{s:CC}{ws:List Nat}(H:CW w0 F t p g h c m s ws w):∀ b,cS g h c m b→b<w.heap.size:=by
 rintro b (rfl|rfl|rfl|rfl)
 ·exact H.cache.lt
 ·exact H.map.lt
 ·exact H.pool.frames.lt
 ·exact H.pool.words.lt
set_option maxRecDepth 100000 in
set_option maxHeartbeats 4000000 in
theorem unmap_any (s:CC)(kids:Nat→Tr)(R ws:List Nat)(ad:Nat)(had:ad<18446744073709551616)(w:World)(H:TW w0 F t p g h c m tb s ws root false w)(T:TI rd s 3 root kids R)(hN:(hxT 3 root kids++R).length+3≤3000000):
 Calls Tryz.prog 25 #[.pointer (some ⟨tb,0,none⟩),.int .u64 (ad:Int)] w (TabP w0 F t p g h c m tb root false (unmR s root kids ad) w):=by
 obtain ⟨w1,hw1⟩:∃ w1,w1=w.alloc (.cells #[.pointer (some ⟨tb,0,none⟩)] 43):=⟨_,rfl⟩
 have HB1:=hid (show Below w.heap.size w w1 by rw [hw1];exact bal _)
 have HR1:=hid (show Row w1 w.heap.size 43 [.pointer (some ⟨tb,0,none⟩)] by rw [hw1];exact Row.new w _ _)
 have H1:=hid (H.below HB1.out)
 have HGO:=hid (tgone_any w0 F t p g h c m tb s ws root false w1 H1.out)
 have HRA:=hid (fun W=>rightAddr_any (ad:Int) W)
 have HNR:=hid (H1.out.cw.nR HR1.out (by decide) (by decide) (by decide))
 have HAL:=hid (atLeaf_any (S:=cS g h c m) (fun _ h=>h) enters_un1 rfl (fun _ _ _=>rfl) (fun _ _ _ _ _ _=>rfl) (fun _ _=>trivial) (fun W1 W2 he hr=>EX.row he hr HNR.out) (fun _ _ _ _ _=>trivial) unmapOk (unmap1_any (fun _ h=>h) w.heap.size) s kids R ws ad had w1 H1.out.cw.cSlt H1.out.nS H1.out HR1.out T trivial hN)
 have HW1:=hid hw1
 clear H T hN hw1 had
 have hbt:=HR1.out.cell 0 (by simp)
 have hbl:=HR1.out.lt
 simp only [List.getElem_cons_zero] at hbt
 by_cases hu:ad<140737488355328
 ·have HR:=hid (show unmR s root kids ad=downT unmapV (ixOf ad) 3 s root kids by unfold unmR;rw [if_pos hu])
  rw [HR.out]
  have d1:decide ((ad:Int)<140737488355328)=true:=by simp;omega
  have d1n:decide (ad<140737488355328)=true:=decide_eq_true hu
  clear hu
  go_enter Tryz.func25,Tryz.ntmps25
  go_wp2_with fail
  rw [← HW1.out]
  refine (HGO.out).mono ?_
  rintro e wx ⟨rfl,rfl⟩
  go_wp2_with fail
  refine (HRA.out _).mono ?_
  rintro e wx ⟨rfl,rfl⟩
  go_wp2_with fail
  refine (HAL.out).mono ?_
  rintro e wx ⟨rfl,ht,he,_⟩
  have HT:=hid ht
  have HE:=hid he
  clear ht he hbt hbl
  go_wp2_with fail
  go_ret
  exact ⟨rfl,HT.out,(EX.of_below HB1.out).trans HE.out⟩
 ·have HR:=hid (show unmR s root kids ad=(s,kids,1) by unfold unmR;rw [if_neg hu])
  rw [HR.out]
  have d1:decide ((ad:Int)<140737488355328)=false:=by simp;omega
  have d1n:decide (ad<140737488355328)=false:=decide_eq_false hu
  clear hu HAL
  go_enter Tryz.func25,Tryz.ntmps25
  go_wp2_with fail
  rw [← HW1.out]
  refine (HGO.out).mono ?_
  rintro e wx ⟨rfl,rfl⟩
  go_wp2_with fail
  refine (HRA.out _).mono ?_
  rintro e wx ⟨rfl,rfl⟩
  go_wp2_with fail
  go_ret
  exact ⟨rfl,⟨ws,H1.out⟩,EX.of_below HB1.out⟩
set_option maxRecDepth 100000 in
set_option maxHeartbeats 4000000 in
theorem find_any (s:CC)(kids:Nat→Tr)(R ws:List Nat)(ad:Nat)(had:ad<18446744073709551616)(w:World)(H:TW w0 F t p g h c m tb s ws root false w)(T:TI rd s 3 root kids R)(hN:(hxT 3 root kids++R).length+3≤3000000):
 Calls Tryz.prog 14 #[.pointer (some ⟨tb,0,none⟩),.int .u64 (ad:Int)] w fun e w'=>e=.returned (.tuple #[ldV (fndL ad (lookT (ixOf ad) 3 kids)),.int .i64 (fndE ad (lookT (ixOf ad) 3 kids))])∧(∃ ws',TW w0 F t p g h c m tb s ws' root false w')∧EX (cS g h c m) w w':=by
 obtain ⟨w1,hw1⟩:∃ w1,w1=w.alloc (.cells #[.int .i64 0,.int .u8 0,.bool false] 31):=⟨_,rfl⟩
 have HB1:=hid (show Below w.heap.size w w1 by rw [hw1];exact bal _)
 have HR1:=hid (show Row w1 w.heap.size 31 (lfC 0 0 false) by rw [hw1];exact Row.new w _ _)
 have H1:=hid (H.below HB1.out)
 have HGO:=hid (tgone_any w0 F t p g h c m tb s ws root false w1 H1.out)
 have HRA:=hid (fun W=>rightAddr_any (ad:Int) W)
 have HW1:=hid hw1
 by_cases hu:ad<140737488355328
 ·obtain ⟨w2,hw2⟩:∃ w2,w2=w1.alloc (.cells #[.int .i64 0,.int .u8 0,.bool false] 31):=⟨_,rfl⟩
  have hsz:w1.heap.size=w.heap.size+1:=by rw [hw1,World.size_alloc]
  have HB2:=hid (show Below w1.heap.size w1 w2 by rw [hw2];exact bal _)
  have HR2:=hid (show Row w2 (w1.heap.size) 31 (lfC 0 0 false) by rw [hw2];exact Row.new w1 _ _)
  have H2:=hid (H1.out.below HB2.out)
  have HR12:=hid (HR1.out.below HB2.out HR1.out.lt)
  have HW2:=hid hw2
  have HNR:=hid (H2.out.cw.nR HR2.out (by decide) (by decide) (by decide))
  have HN1:=hid (H2.out.cw.nR HR12.out (by decide) (by decide) (by decide))
  have hlt2:=HR2.out.lt
  have HAL:=hid (atLeaf_any (S:=fun b=>cS g h c m b∨b=w1.heap.size) (P0:=fun W=>Row W (w1.heap.size) 31 (lfC 0 0 false)) (P1:=FndP (w1.heap.size)) (fun _ h=>.inl h) enters_fi1 rfl (fun _ _ _=>rfl) (fun _ _ _ _ _ _=>rfl) (fun _ h=>h) (fun W1 W2 he hr=>EX.row he hr HNR.out) (fun ch W1 W2 he hr=>FndP.ex hr he HNR.out) findOk (find1_any (w1.heap.size) (.inr rfl) (by have:=H.cw.low.size;have:=HB1.out.size;omega)) s kids R ws ad had w2 (by
   rintro b (hb|rfl)
   ·exact H2.out.cw.cSlt b hb
   ·exact hlt2) (by
   rintro (hb|e)
   ·exact H2.out.nS hb
   ·exact row_tys H2.out.tab HR2.out (by decide) e) H2.out HR2.out T trivial hN)
  have HDF:=hid (down_find (ixOf_lt ad) 3 s root kids T.holds.shp)
  rw [HDF.out] at HAL
  have HR:=hid (show fndL ad (lookT (ixOf ad) 3 kids)=lookT (ixOf ad) 3 kids∧fndE ad (lookT (ixOf ad) 3 kids)=if isNo (lookT (ixOf ad) 3 kids) then 6 else 0 by unfold fndL fndE;rw [if_pos hu,if_pos hu];exact ⟨rfl,rfl⟩)
  rw [HR.out.1,HR.out.2]
  have HNEW:=hid (show ∀ b,b<w.heap.size→(cS g h c m b∨b=w1.heap.size)→cS g h c m b by
   rintro b hb (h1|rfl)
   ·exact h1
   ·omega)
  have HNS:=hid (show ¬ (cS g h c m w.heap.size∨w.heap.size=w1.heap.size) by rintro (e|e);(· exact HN1.out e);(· omega))
  have d1:decide ((ad:Int)<140737488355328)=true:=by simp;omega
  have d1n:decide (ad<140737488355328)=true:=decide_eq_true hu
  generalize lookT (ixOf ad) 3 kids=ch at *
  generalize (if isNo ch=true then (6:Int) else 0)=er at *
  have HLW:=hid (show w0.heap.size≤w.heap.size from H.cw.low.size)
  clear hu H T hN hw1 hw2 had HDF hsz hlt2
  go_enter Tryz.func14,Tryz.ntmps14
  go_wp2_with fail
  rw [← HW1.out]
  refine (HGO.out).mono ?_
  rintro e wx ⟨rfl,rfl⟩
  go_wp2_with fail
  refine (HRA.out _).mono ?_
  rintro e wx ⟨rfl,rfl⟩
  go_wp2_with fail
  rw [← HW2.out]
  refine (HAL.out).mono ?_
  rintro e w3 ⟨rfl,ht3,he3,hp3⟩
  have HT3:=hid ht3
  have HE3:=hid he3
  have HP3:=hid hp3
  have HR3:=hid (he3.row HR12.out HNS.out)
  clear ht3 he3 hp3
  obtain ⟨g0,g1,g2⟩:w3.cell? ⟨w.heap.size,0,none⟩=some (.int .i64 0)∧w3.cell? ⟨w.heap.size,1,none⟩=some (.int .u8 0)∧w3.cell? ⟨w.heap.size,2,none⟩=some (.bool false):=⟨HR3.out.cell 0 (by simp),HR3.out.cell 1 (by simp),HR3.out.cell 2 (by simp)⟩
  have f0:=HR3.out.frozen 0
  have f1:=HR3.out.frozen 1
  have f2:=HR3.out.frozen 2
  have hrl:=HR3.out.lt
  obtain ⟨x0,x1,x2,hld,hrx⟩:∃ x0 x1 x2,ldV ch=.agg #[.int .i64 x0,.int .u8 x1,.bool x2]∧Row w3 w1.heap.size 31 [.int .i64 x0,.int .u8 x1,.bool x2]:=by
   have h3:=HP3.out
   cases ch with
   | no=>exact ⟨_,_,_,rfl,h3⟩
   | nd _ _=>exact ⟨_,_,_,rfl,h3⟩
   | lf a q b=>exact ⟨_,_,_,rfl,h3⟩
  obtain ⟨y0,y1,y2⟩:w3.cell? ⟨w1.heap.size,0,none⟩=some (.int .i64 x0)∧w3.cell? ⟨w1.heap.size,1,none⟩=some (.int .u8 x1)∧w3.cell? ⟨w1.heap.size,2,none⟩=some (.bool x2):=⟨hrx.cell 0 (by simp),hrx.cell 1 (by simp),hrx.cell 2 (by simp)⟩
  have hyl:=hrx.lt
  have HLD:=hid hld
  clear hrx hld
  have HEW:=hid (show EX (cS g h c m) w w3 from (((EX.of_below (HB1.out.trans (HB2.out.mono HB1.out.size))).trans HE3.out).mono HNEW.out))
  have HLO:=hid HT3.out
  go_wp2_with fail
  have he9:EX (fun k=>k=w.heap.size) w3 (((w3.setCell ⟨w.heap.size,0,none⟩ (.int .i64 x0)).setCell ⟨w.heap.size,1,none⟩ (.int .u8 x1)).setCell ⟨w.heap.size,2,none⟩ (.bool x2)):=(((EX.refl (S:=fun k=>k=w.heap.size) w3).set (g:=w.heap.size) (.inl rfl) 0 _).set (g:=w.heap.size) (.inl rfl) 1 _).set (g:=w.heap.size) (.inl rfl) 2 _
  refine bodyPost_ret (v:=.tuple #[.agg #[.int .i64 x0,.int .u8 x1,.bool x2],.int .i64 er]) (by simp [results,Tryz.f14,go_sem,g0,g1,g2]) rfl ⟨by rw [HLD.out],?_,?_⟩
  ·obtain ⟨ws3,ht3⟩:=HT3.out
   exact ⟨ws3,ht3.off he9 HR3.out HLW.out⟩
  ·exact HEW.out.new he9 (Nat.le_refl _)
 ·have HR:=hid (show fndL ad (lookT (ixOf ad) 3 kids)=.no∧fndE ad (lookT (ixOf ad) 3 kids)=1 by unfold fndL fndE;rw [if_neg hu,if_neg hu];exact ⟨rfl,rfl⟩)
  rw [HR.out.1,HR.out.2]
  have d1:decide ((ad:Int)<140737488355328)=false:=by simp;omega
  have d1n:decide (ad<140737488355328)=false:=decide_eq_false hu
  have HLW:=hid (show w0.heap.size≤w.heap.size from H.cw.low.size)
  clear hu H T hN hw1
  obtain ⟨g0,g1,g2⟩:w1.cell? ⟨w.heap.size,0,none⟩=some (.int .i64 0)∧w1.cell? ⟨w.heap.size,1,none⟩=some (.int .u8 0)∧w1.cell? ⟨w.heap.size,2,none⟩=some (.bool false):=⟨HR1.out.cell 0 (by simp),HR1.out.cell 1 (by simp),HR1.out.cell 2 (by simp)⟩
  have f0:=HR1.out.frozen 0
  have f1:=HR1.out.frozen 1
  have f2:=HR1.out.frozen 2
  have hrl:=HR1.out.lt
  go_enter Tryz.func14,Tryz.ntmps14
  go_wp2_with fail
  rw [← HW1.out]
  refine (HGO.out).mono ?_
  rintro e wx ⟨rfl,rfl⟩
  go_wp2_with fail
  refine (HRA.out _).mono ?_
  rintro e wx ⟨rfl,rfl⟩
  go_wp2_with fail
  have he9:EX (fun k=>k=w.heap.size) w1 (((w1.setCell ⟨w.heap.size,0,none⟩ (.int .i64 0)).setCell ⟨w.heap.size,1,none⟩ (.int .u8 0)).setCell ⟨w.heap.size,2,none⟩ (.bool false)):=(((EX.refl (S:=fun k=>k=w.heap.size) w1).set (g:=w.heap.size) (.inl rfl) 0 _).set (g:=w.heap.size) (.inl rfl) 1 _).set (g:=w.heap.size) (.inl rfl) 2 _
  refine bodyPost_ret (v:=.tuple #[.agg #[.int .i64 0,.int .u8 0,.bool false],.int .i64 1]) (by simp [results,Tryz.f14,go_sem,g0,g1,g2]) rfl ⟨rfl,⟨ws,H1.out.off he9 HR1.out HLW.out⟩,?_⟩
  exact (EX.of_below HB1.out).new he9 (Nat.le_refl _)
end
def okA (s:CC)(ad:Nat)(a q:Int):Bool:=decide (ad<140737488355328)&&(decide (ad%4096=0)&&rightB s a q)
/-- What Map leaves. -/
def mapR (s:CC)(root:Nat)(kids:Nat→Tr)(ad:Nat)(a q:Int)(b:Bool):RES:=
 if okA s ad a q=false then (s,kids,1) else
 if isNo (lookT (ixOf ad) 3 kids)=false then (s,kids,7) else
 if (downT (mapV a.toNat q.toNat b) (ixOf ad) 3 (upC s a.toNat) root kids).2.2=0 then downT (mapV a.toNat q.toNat b) (ixOf ad) 3 (upC s a.toNat) root kids
 else (dnC (downT (mapV a.toNat q.toNat b) (ixOf ad) 3 (upC s a.toNat) root kids).1 a.toNat,kids,(downT (mapV a.toNat q.toNat b) (ixOf ad) 3 (upC s a.toNat) root kids).2.2)
section
variable {w0:World}{F:Nat}{t:FT}{p g h c m tb root:Nat}{rd:Int→Int→List UInt8 × Int}
theorem TI.up {s:CC}{k f a:Nat}{kids:Nat→Tr}{R:List Nat}(T:TI rd s k f kids R)(h:TakenF a s):TI rd (upC s a) k f kids ([a]++R):=by
 obtain ⟨ha,h0⟩:=h
 exact ⟨(T.good.up ha h0).perm (perm_of fun q=>by
  simp only [List.count_append,List.count_cons,List.count_nil]
  omega),T.nd,T.off,T.holds.mono up_len fun _ _=>up_bs,T.full⟩
set_option maxRecDepth 100000 in
set_option maxHeartbeats 4000000 in
theorem set_any (s:CC)(kids:Nat→Tr)(R ws:List Nat)(ad:Nat)(had:ad<18446744073709551616)(a q:Int)(b:Bool)(hq0:0≤q)(w:World)(H:TW w0 F t p g h c m tb s ws root false w)(T:TI rd s 3 root kids R)(hN:(hxT 3 root kids++R).length+3≤3000000):
 Calls Tryz.prog 26 #[.pointer (some ⟨tb,0,none⟩),.int .u64 (ad:Int),.agg #[.int .i64 a,.int .u8 q,.bool b]] w (TabP w0 F t p g h c m tb root false (setR s root kids ad a q b) w):=by
 obtain ⟨w1,hw1⟩:∃ w1,w1=(w.alloc (.cells #[.pointer (some ⟨tb,0,none⟩)] 43)).alloc (.cells #[.int .i64 a,.int .u8 q,.bool b] 31):=⟨_,rfl⟩
 have HB1:=hid (show Below w.heap.size w w1 by rw [hw1];exact bthen (bal _) (bal _))
 have HRT:=hid (show Row w1 w.heap.size 43 [.pointer (some ⟨tb,0,none⟩)] by rw [hw1];exact (Row.new w _ _).alloc _)
 have HRL:=hid (show Row w1 (w.heap.size+1) 31 [.int .i64 a,.int .u8 q,.bool b] by
  rw [hw1]
  have:=Row.new (w.alloc (.cells #[.pointer (some ⟨tb,0,none⟩)] 43)) 31 [.int .i64 a,.int .u8 q,.bool b]
  rw [World.size_alloc] at this
  exact this)
 have H1:=hid (H.below HB1.out)
 have HGO:=hid (tgone_any w0 F t p g h c m tb s ws root false w1 H1.out)
 have HRA:=hid (fun W=>rightAddr_any (ad:Int) W)
 have HRI:=hid (rightLeaf_any s a q b ws false w1 H1.out)
 have HW1:=hid hw1
 have hbt:=HRT.out.cell 0 (by simp)
 have hbl:=HRT.out.lt
 have hl0:=HRL.out.cell 0 (by simp)
 have hl1:=HRL.out.cell 1 (by simp)
 have hl2:=HRL.out.cell 2 (by simp)
 have hll:=HRL.out.lt
 simp only [List.getElem_cons_zero,List.getElem_cons_succ] at hbt hl0 hl1 hl2
 by_cases hu:ad<140737488355328
 ·have d1:decide ((ad:Int)<140737488355328)=true:=by simp;omega
  have d1n:decide (ad<140737488355328)=true:=decide_eq_true hu
  cases hr:rightB s a q with
  | false=>
   have HR:=hid (show setR s root kids ad a q b=(s,kids,1) by unfold setR;rw [if_neg (by rw [hr];simp)])
   rw [HR.out]
   rw [hr] at HRI
   clear hu H T hN hw1 had hr hq0
   go_enter Tryz.func26,Tryz.ntmps26
   go_wp2_with fail
   rw [← HW1.out]
   refine (HGO.out).mono ?_
   rintro e wx ⟨rfl,rfl⟩
   go_wp2_with fail
   refine (HRA.out _).mono ?_
   rintro e wx ⟨rfl,rfl⟩
   go_wp2_with fail
   refine (HRI.out).mono ?_
   rintro e wx ⟨rfl,hbx⟩
   have HBX:=hid hbx
   clear hbx hbt hbl hl0 hl1 hl2 hll
   go_wp2_with fail
   go_ret
   exact ⟨rfl,⟨ws,H1.out.below HBX.out⟩,EX.of_below (HB1.out.trans (HBX.out.mono HB1.out.size))⟩
  | true=>
   obtain ⟨k,r,rfl,rfl,hr7,hTK⟩:=rightB_is hr hq0
   have hk:k<1048576:=by
    obtain ⟨hk,_⟩:=hTK
    have:=H.cw.pool.n2
    omega
   have HR:=hid (show setR s root kids ad (k:Int) (r:Int) b=downT (setV k r b) (ixOf ad) 3 s root kids by unfold setR;rw [if_pos ⟨hu,hr⟩,Int.toNat_natCast,Int.toNat_natCast])
   rw [HR.out]
   rw [hr] at HRI
   have HNT:=hid (H1.out.cw.nR HRT.out (by decide) (by decide) (by decide))
   have HNL:=hid (H1.out.cw.nR HRL.out (by decide) (by decide) (by decide))
   have HAL:=hid (fun W (hb:Below w1.heap.size w1 W)=>atLeaf_any (S:=cS g h c m) (P0:=BoxL tb w.heap.size (w.heap.size+1) k r b) (P1:=fun _ _=>True) (fun _ h=>h) enters_se1 rfl (fun _ _ _=>rfl) (fun _ _ _ _ _ _=>rfl) (fun _ _=>trivial) (fun W1 W2 he hr=>⟨EX.row he hr.t HNT.out,EX.row he hr.l HNL.out⟩) (fun _ _ _ _ _=>trivial) (setOk hr7) (set1_any (fun _ h=>h) w.heap.size (w.heap.size+1) k r b hk hr7) s kids R ws ad had W (H1.out.below hb).cw.cSlt (H1.out.below hb).nS (H1.out.below hb) ⟨HRT.out.below hb HRT.out.lt,HRL.out.below hb HRL.out.lt⟩ T hTK hN)
   clear hu H T hN hw1 had hr hq0 hTK hk hr7
   go_enter Tryz.func26,Tryz.ntmps26
   go_wp2_with fail
   rw [← HW1.out]
   refine (HGO.out).mono ?_
   rintro e wx ⟨rfl,rfl⟩
   go_wp2_with fail
   refine (HRA.out _).mono ?_
   rintro e wx ⟨rfl,rfl⟩
   go_wp2_with fail
   refine (HRI.out).mono ?_
   rintro e w2 ⟨rfl,hbx⟩
   have HBX:=hid hbx
   have HRT2:=hid (HRT.out.below hbx HRT.out.lt)
   clear hbx hbt hbl hl0 hl1 hl2 hll
   have hbt:=HRT2.out.cell 0 (by simp)
   have hbl:=HRT2.out.lt
   simp only [List.getElem_cons_zero] at hbt
   go_wp2_with fail
   refine (HAL.out _ HBX.out).mono ?_
   rintro e wx ⟨rfl,ht,he,_⟩
   have HT:=hid ht
   have HE:=hid he
   clear ht he hbt hbl
   go_wp2_with fail
   go_ret
   exact ⟨rfl,HT.out,(EX.of_below (HB1.out.trans (HBX.out.mono HB1.out.size))).trans HE.out⟩
 ·have HR:=hid (show setR s root kids ad a q b=(s,kids,1) by unfold setR;rw [if_neg (fun e=>hu e.1)])
  rw [HR.out]
  have d1:decide ((ad:Int)<140737488355328)=false:=by simp;omega
  have d1n:decide (ad<140737488355328)=false:=decide_eq_false hu
  clear hu H T hN hw1 had hq0 HRI
  go_enter Tryz.func26,Tryz.ntmps26
  go_wp2_with fail
  rw [← HW1.out]
  refine (HGO.out).mono ?_
  rintro e wx ⟨rfl,rfl⟩
  go_wp2_with fail
  refine (HRA.out _).mono ?_
  rintro e wx ⟨rfl,rfl⟩
  go_wp2_with fail
  go_ret
  exact ⟨rfl,⟨ws,H1.out⟩,EX.of_below HB1.out⟩
set_option maxRecDepth 100000 in
set_option maxHeartbeats 8000000 in
theorem map_any (s:CC)(kids:Nat→Tr)(R ws:List Nat)(ad:Nat)(had:ad<18446744073709551616)(a q:Int)(b:Bool)(hq0:0≤q)(w:World)(H:TW w0 F t p g h c m tb s ws root false w)(T:TI rd s 3 root kids R)(hN:(hxT 3 root kids++R).length+4≤3000000):
 Calls Tryz.prog 13 #[.pointer (some ⟨tb,0,none⟩),.int .u64 (ad:Int),.agg #[.int .i64 a,.int .u8 q,.bool b]] w (TabP w0 F t p g h c m tb root false (mapR s root kids ad a q b) w):=by
 obtain ⟨w1,hw1⟩:∃ w1,w1=(w.alloc (.cells #[.pointer (some ⟨tb,0,none⟩)] 43)).alloc (.cells #[.int .i64 a,.int .u8 q,.bool b] 31):=⟨_,rfl⟩
 have HB1:=hid (show Below w.heap.size w w1 by rw [hw1];exact bthen (bal _) (bal _))
 have HRT:=hid (show Row w1 w.heap.size 43 [.pointer (some ⟨tb,0,none⟩)] by rw [hw1];exact (Row.new w _ _).alloc _)
 have HRL:=hid (show Row w1 (w.heap.size+1) 31 [.int .i64 a,.int .u8 q,.bool b] by
  rw [hw1]
  have:=Row.new (w.alloc (.cells #[.pointer (some ⟨tb,0,none⟩)] 43)) 31 [.int .i64 a,.int .u8 q,.bool b]
  rw [World.size_alloc] at this
  exact this)
 have H1:=hid (H.below HB1.out)
 have HGO:=hid (tgone_any w0 F t p g h c m tb s ws root false w1 H1.out)
 have HRA:=hid (fun W=>rightAddr_any (ad:Int) W)
 have HRI:=hid (rightLeaf_any s a q b ws false w1 H1.out)
 have HW1:=hid hw1
 have hbt:=HRT.out.cell 0 (by simp)
 have hbl:=HRT.out.lt
 have hl0:=HRL.out.cell 0 (by simp)
 have hl1:=HRL.out.cell 1 (by simp)
 have hl2:=HRL.out.cell 2 (by simp)
 have hll:=HRL.out.lt
 simp only [List.getElem_cons_zero,List.getElem_cons_succ] at hbt hl0 hl1 hl2
 have em:(ad:Int).tmod 4096=((ad%4096:Nat):Int):=by rw [Int.tmod_eq_emod_of_nonneg (by omega)];omega
 by_cases hu:ad<140737488355328
 ·have d1:decide ((ad:Int)<140737488355328)=true:=by simp;omega
  have d1n:decide (ad<140737488355328)=true:=decide_eq_true hu
  by_cases hm:ad%4096=0
  ·have em0:(ad:Int).tmod 4096=0:=by rw [em,hm];rfl
   cases hr:rightB s a q with
   | false=>
    have HR:=hid (show mapR s root kids ad a q b=(s,kids,1) by unfold mapR okA;rw [hr,Bool.and_false,Bool.and_false,if_pos rfl])
    rw [HR.out]
    rw [hr] at HRI
    clear hu H T hN hw1 had hr hq0 em hm
    go_enter Tryz.func13,Tryz.ntmps13
    go_wp2_with fail
    rw [← HW1.out]
    refine (HGO.out).mono ?_
    rintro e wx ⟨rfl,rfl⟩
    go_wp2_with fail
    refine (HRA.out _).mono ?_
    rintro e wx ⟨rfl,rfl⟩
    go_wp2_with fail
    refine (HRI.out).mono ?_
    rintro e wx ⟨rfl,hbx⟩
    have HBX:=hid hbx
    clear hbx hbt hbl hl0 hl1 hl2 hll
    go_wp2_with fail
    go_ret
    exact ⟨rfl,⟨ws,H1.out.below HBX.out⟩,EX.of_below (HB1.out.trans (HBX.out.mono HB1.out.size))⟩
   | true=>
    have hok:okA s ad a q=true:=by unfold okA;rw [hr,decide_eq_true hu,decide_eq_true hm];rfl
    obtain ⟨k,r,rfl,rfl,hr7,hTK⟩:=rightB_is hr hq0
    have hk:k<1048576:=by
     obtain ⟨hk,_⟩:=hTK
     have:=H.cw.pool.n2
     omega
    rw [hr] at HRI
    have HFI:=hid (fun W (hb:Below w1.heap.size w1 W)=>find_any s kids R ws ad had W (H1.out.below hb) T (by omega))
    have hfe:fndE ad (lookT (ixOf ad) 3 kids)=if isNo (lookT (ixOf ad) 3 kids) then 6 else 0:=by unfold fndE;rw [if_pos hu]
    rw [hfe] at HFI
    obtain ⟨x0,x1,x2,hld⟩:∃ x0 x1 x2,ldV (fndL ad (lookT (ixOf ad) 3 kids))=.agg #[.int .i64 x0,.int .u8 x1,.bool x2]:=by
     cases fndL ad (lookT (ixOf ad) 3 kids) with
     | no=>exact ⟨_,_,_,rfl⟩
     | nd _ _=>exact ⟨_,_,_,rfl⟩
     | lf a q b=>exact ⟨_,_,_,rfl⟩
    rw [hld] at HFI
    have HNT:=hid (H1.out.cw.nR HRT.out (by decide) (by decide) (by decide))
    have HNL:=hid (H1.out.cw.nR HRL.out (by decide) (by decide) (by decide))
    cases hno:isNo (lookT (ixOf ad) 3 kids) with
    | false=>
     have HR:=hid (show mapR s root kids ad (k:Int) (r:Int) b=(s,kids,7) by unfold mapR;rw [hok,if_neg (by simp),hno,if_pos rfl])
     rw [HR.out]
     rw [hno] at HFI
     simp only [Bool.false_eq_true,if_false] at HFI
     clear hu H T hN hw1 had hr hq0 em hm hok hr7 hTK hk hfe hld hno
     go_enter Tryz.func13,Tryz.ntmps13
     go_wp2_with fail
     rw [← HW1.out]
     refine (HGO.out).mono ?_
     rintro e wx ⟨rfl,rfl⟩
     go_wp2_with fail
     refine (HRA.out _).mono ?_
     rintro e wx ⟨rfl,rfl⟩
     go_wp2_with fail
     refine (HRI.out).mono ?_
     rintro e w2 ⟨rfl,hbx⟩
     have HBX:=hid hbx
     have HRT2:=hid (HRT.out.below hbx HRT.out.lt)
     clear hbx hbt hbl hl0 hl1 hl2 hll
     have hbt:=HRT2.out.cell 0 (by simp)
     have hbl:=HRT2.out.lt
     simp only [List.getElem_cons_zero] at hbt
     go_wp2_with fail
     refine (HFI.out _ HBX.out).mono ?_
     rintro e w3 ⟨rfl,⟨ws3,ht3⟩,he3⟩
     have HT3:=hid ht3
     have HE3:=hid he3
     clear ht3 he3 hbt hbl
     go_wp2_with fail
     go_ret
     exact ⟨rfl,⟨ws3,HT3.out.below (bal _)⟩,((EX.of_below (HB1.out.trans (HBX.out.mono HB1.out.size))).trans HE3.out).trans (EX.of_below (bal _))⟩
    | true=>
     have hlk:lookT (ixOf ad) 3 kids=.no:=by
      cases hl:lookT (ixOf ad) 3 kids with
      | no=>rfl
      | lf a b c=>rw [hl] at hno;cases hno
      | nd a b=>rw [hl] at hno;cases hno
     have HTU:=hid (T.up hTK)
     have hlN:(hxT 3 root kids++([k]++R)).length+3≤3000000:=by
      simp only [List.length_append,List.length_cons,List.length_nil] at hN ⊢
      omega
     have HD:=hid (downT_ok (mapOk (b:=b) hr7) (ixOf_lt ad) 3 (upC s k) root kids R trivial hlk HTU.out)
     have HBXL:=hid (fun W (he:EX (cS g h c m) w1 W)=>show BoxL tb w.heap.size (w.heap.size+1) k r b W from ⟨he.row HRT.out HNT.out,he.row HRL.out HNL.out⟩)
     have HDN:=hid (fun W ws1 (hT:TW w0 F t p g h c m tb (upC s k) ws1 root false W) (he:EX (cS g h c m) w1 W) (hNB:w1.heap.size≤W.heap.size)=>tdown_any (S:=cS g h c m) (P0:=BoxL tb w.heap.size (w.heap.size+1) k r b) (P1:=fun _ _=>True) enters_ma1 (fun _ h=>h) (fun W1 W2 he2 hr=>⟨EX.row he2 hr.t HNT.out,EX.row he2 hr.l HNL.out⟩) (fun _ _ _ _ _=>trivial) (mapOk (b:=b) hr7) (fun e=>by unfold mapB;split <;> simp) (ixOf_lt ad) w1.heap.size H1.out.cw.cSlt (fun _ _=>trivial) (map1_any (fun _ h=>h) w.heap.size (w.heap.size+1) k r b hk hr7) 3 (by omega) 4 (upC s k) root kids R ws1 W (by omega) hNB hT (HBXL.out W he) HTU.out trivial hlk hlN)
     have HUP:=hid (fun W ws1 (hT:TW w0 F t p g h c m tb s ws1 root false W)=>tup_any s k _ ws1 W hT T.good (by omega))
     have HPO:=hid (fun (s':CC) W ws1 (hT:TW w0 F t p g h c m tb s' ws1 root false W)=>tpool_any w0 F t p g h c m tb s' ws1 root false W hT)
     have HSP:=hid (fun W=>split_any ad had W)
     have HR0:=hid (show mapR s root kids ad (k:Int) (r:Int) b=if (downT (mapV k r b) (ixOf ad) 3 (upC s k) root kids).2.2=0 then downT (mapV k r b) (ixOf ad) 3 (upC s k) root kids else (dnC (downT (mapV k r b) (ixOf ad) 3 (upC s k) root kids).1 k,kids,(downT (mapV k r b) (ixOf ad) 3 (upC s k) root kids).2.2) by unfold mapR;rw [hok,if_neg (by simp),hno,if_neg (by simp),Int.toNat_natCast,Int.toNat_natCast])
     obtain ⟨Rr,hRr⟩:∃ Rr,Rr=mapR s root kids ad (k:Int) (r:Int) b:=⟨_,rfl⟩
     rw [← hRr] at HR0 ⊢
     have HRLEN:=hid (show R.length≤3000000 by rw [List.length_append] at hN;omega)
     rw [hno] at HFI
     simp only [if_true] at HFI
     unfold visC at HDN
     clear hu H T hN hw1 had hr hq0 em hm hok hr7 hTK hk hfe hld hno hlk hlN hRr
     generalize downT (mapV k r b) (ixOf ad) 3 (upC s k) root kids=D at *
     go_enter Tryz.func13,Tryz.ntmps13
     go_wp2_with fail
     rw [← HW1.out]
     refine (HGO.out).mono ?_
     rintro e wx ⟨rfl,rfl⟩
     go_wp2_with fail
     refine (HRA.out _).mono ?_
     rintro e wx ⟨rfl,rfl⟩
     go_wp2_with fail
     refine (HRI.out).mono ?_
     rintro e w2 ⟨rfl,hbx⟩
     have HBX:=hid hbx
     have HRT2:=hid (HRT.out.below hbx HRT.out.lt)
     clear hbx hbt hbl hl0 hl1 hl2 hll
     have hbt:=HRT2.out.cell 0 (by simp)
     have hbl:=HRT2.out.lt
     simp only [List.getElem_cons_zero] at hbt
     go_wp2_with fail
     refine (HFI.out _ HBX.out).mono ?_
     rintro e w3 ⟨rfl,⟨ws3,ht3⟩,he3⟩
     obtain ⟨w4,hw4⟩:∃ w4,w4=w3.alloc (.cells #[.int .i64 x0,.int .u8 x1,.bool x2] 31):=⟨_,rfl⟩
     have HB4:=hid (show Below w3.heap.size w3 w4 by rw [hw4];exact bal _)
     have HT4:=hid (ht3.below HB4.out)
     have HE4:=hid (show EX (cS g h c m) w1 w4 from ((EX.of_below HBX.out).trans he3).trans (EX.of_below HB4.out))
     have HZ4:=hid (show w1.heap.size≤w4.heap.size from HE4.out.size)
     have HW4:=hid hw4
     clear ht3 he3 hbt hbl hw4
     go_wp2_with fail
     rw [← HW4.out]
     have HCE:=hid (fun ww (hs:EX (cS g h c m) w4 ww)=>show ww.cell? ⟨w.heap.size,0,none⟩=some (.pointer (some ⟨tb,0,none⟩))∧ww.cell? ⟨w.heap.size+1,0,none⟩=some (.int .i64 (k:Int)) from
      ⟨(HBXL.out ww (HE4.out.trans hs)).t.cell 0 (by simp),(HBXL.out ww (HE4.out.trans hs)).l.cell 0 (by simp)⟩)
     have Q0:∀ ww,EX (cS g h c m) w4 ww→ww.cell? ⟨w.heap.size,0,none⟩=some (.pointer (some ⟨tb,0,none⟩)):=fun ww hs=>(HCE.out ww hs).1
     have L0:∀ ww,EX (cS g h c m) w4 ww→ww.cell? ⟨w.heap.size+1,0,none⟩=some (.int .i64 (k:Int)):=fun ww hs=>(HCE.out ww hs).2
     have hS0:EX (cS g h c m) w4 w4.drew:=EX.drew (EX.refl _)
     have HT4D:=hid (HT4.out.below (bdN (Below.refl _ _) 1))
     have HPO1:=hid (HPO.out s w4.drew ws3 HT4D.out)
     have HUP1:=hid (HUP.out w4.drew ws3 HT4D.out)
     go_region_held3 (EX (cS g h c m) w4) (first|exact EX.drew _|exact EX.refl _|assumption) (first|(go_at_call 56;refine (HPO1.out).mono ?_;rintro e' wx ⟨rfl,rfl⟩)|(go_at_call 57;refine (HUP1.out).mono ?_;rintro e' wy ⟨⟨er,rfl⟩,hty,hey⟩;have HTY:=hid hty;have hS2:EX (cS g h c m) w4 wy:=hS0.trans hey;clear hty hey))
     rename World=>wU
     have HEU:=hid hS2
     clear Q0 L0 hS0 hS2 HPO1 HUP1
     obtain ⟨q0,q1,q2⟩:=HTY.out.cells
     have hnt:=HTY.out.nS
     have hS0:EX (cS g h c m) wU wU.drew:=EX.drew (EX.refl _)
     have Q0:∀ ww,EX (cS g h c m) wU ww→ww.cell? ⟨w.heap.size,0,none⟩=some (.pointer (some ⟨tb,0,none⟩)):=fun ww hs=>(HCE.out ww (HEU.out.trans hs)).1
     have Q1:∀ ww,EX (cS g h c m) wU ww→ww.cell? ⟨tb,1,none⟩=some (.int .i64 (root:Int)):=fun ww hs=>hs.cell q1 hnt
     clear q0 q1 q2 hnt
     go_wp2_with fail
     go_region_held3 (EX (cS g h c m) wU) (first|exact EX.drew _|exact EX.refl _|assumption) (first|(go_at_call 59;refine (HSP.out wU.drew).mono ?_;rintro e' wx ⟨rfl,hbx⟩;have HS11:Hid (St wU wx):=hid (St.step (St.drew wU) hbx);have hS1:EX (cS g h c m) wU wx:=EX.of_below HS11.out;clear hbx)|(go_at_call 58;refine (HDN.out _ ws3 (HTY.out.below HS11.out) ((HE4.out.trans HEU.out).trans (EX.of_below HS11.out)) (Nat.le_trans HZ4.out (Nat.le_trans HEU.out.size HS11.out.size))).mono ?_;rintro e' wy ⟨rfl,hty,hey,_⟩;have HTZ:=hid hty;have hS2:EX (cS g h c m) wU wy:=(EX.of_below HS11.out).trans hey;clear hty hey))
     all_goals
      rename World=>wV
      have HEV:=hid ((HE4.out.trans HEU.out).trans hS2)
      have HEW:=hid (HEU.out.trans hS2)
      clear Q0 Q1 hS0 hS2
      obtain ⟨wsV,hTZ⟩:=HTZ.out
      have HTV:=hid hTZ
      clear hTZ
      obtain ⟨er,her⟩:∃ er,er=D.2.2:=⟨_,rfl⟩
      have HER:=hid her
      rw [← her]
      clear her
      by_cases he0:er=0
      ·have HR:=hid (HR0.out.trans (if_pos (by rw [← HER.out];exact he0)))
       have d3:(er != (0:Int))=false:=by simp [he0]
       have d3d:decide (er=0)=true:=decide_eq_true he0
       clear he0
       go_wp2_with fail
       go_ret
       exact ⟨by rw [HR.out,← HER.out];rfl,⟨wsV,by rw [HR.out];exact HTV.out⟩,(EX.of_below HB1.out).trans HEV.out⟩
      ·have HR:=hid (HR0.out.trans (if_neg (by rw [← HER.out];exact he0)))
       have d3:(er != (0:Int))=true:=by rw [bne_iff_ne];exact he0
       have d3d:decide (er=0)=false:=decide_eq_false he0
       clear he0
       have Q0:∀ ww,EX (cS g h c m) wV ww→ww.cell? ⟨w.heap.size,0,none⟩=some (.pointer (some ⟨tb,0,none⟩)):=fun ww hs=>(HCE.out ww (HEW.out.trans hs)).1
       have L0:∀ ww,EX (cS g h c m) wV ww→ww.cell? ⟨w.heap.size+1,0,none⟩=some (.int .i64 (k:Int)):=fun ww hs=>(HCE.out ww (HEW.out.trans hs)).2
       have hS0:EX (cS g h c m) wV wV.drew:=EX.drew (EX.refl _)
       have HTVD:=hid (HTV.out.below (bdN (Below.refl _ _) 1))
       have HPO1:=hid (HPO.out D.1 wV.drew wsV HTVD.out)
       have HDW:=hid (tdn_any D.1 k _ wsV wV.drew HTVD.out HD.out.ti.good (by
        have h1:=HD.out.ti.len
        have h2:=HTV.out.cw.pool.n2
        have h3:=HRLEN.out
        simp only [List.length_append]
        have h4:(mapB k D.2.2).length≤1:=by unfold mapB;split <;> simp
        omega))
       go_wp2_with fail
       go_region_held3 (EX (cS g h c m) wV) (first|exact EX.drew _|exact EX.refl _|assumption) (first|(go_at_call 56;refine (HPO1.out).mono ?_;rintro e' wx ⟨rfl,rfl⟩)|(go_at_call 31;refine (HDW.out).mono ?_;rintro e' wy ⟨⟨er2,rfl⟩,hty,hey⟩;have HTZZ:=hid hty;have hS2:EX (cS g h c m) wV wy:=hS0.trans hey;clear hty hey))
       have HEZ:=hid hS2
       clear Q0 L0 hS0 hS2
       go_wp2_with fail
       go_ret
       exact ⟨by rw [HR.out];exact congrArg (fun x=>Ending.returned (.int .i64 x)) HER.out,by rw [HR.out];exact HTZZ.out,(EX.of_below HB1.out).trans (HEV.out.trans HEZ.out)⟩
  ·have em1:(((ad%4096:Nat):Int) != 0)=true:=by rw [bne_iff_ne];omega
   have HR:=hid (show mapR s root kids ad a q b=(s,kids,1) by unfold mapR okA;rw [decide_eq_false hm,Bool.false_and,Bool.and_false,if_pos rfl])
   rw [HR.out]
   generalize ((ad%4096:Nat):Int)=z at em em1
   clear hu H T hN hw1 had hq0 HRI hm
   go_enter Tryz.func13,Tryz.ntmps13
   go_wp2_with fail
   rw [← HW1.out]
   refine (HGO.out).mono ?_
   rintro e wx ⟨rfl,rfl⟩
   go_wp2_with fail
   refine (HRA.out _).mono ?_
   rintro e wx ⟨rfl,rfl⟩
   go_wp2_with fail
   go_ret
   exact ⟨rfl,⟨ws,H1.out⟩,EX.of_below HB1.out⟩
 ·have HR:=hid (show mapR s root kids ad a q b=(s,kids,1) by unfold mapR okA;rw [decide_eq_false hu,Bool.false_and,if_pos rfl])
  rw [HR.out]
  have d1:decide ((ad:Int)<140737488355328)=false:=by simp;omega
  have d1n:decide (ad<140737488355328)=false:=decide_eq_false hu
  clear hu H T hN hw1 had hq0 HRI em
  go_enter Tryz.func13,Tryz.ntmps13
  go_wp2_with fail
  rw [← HW1.out]
  refine (HGO.out).mono ?_
  rintro e wx ⟨rfl,rfl⟩
  go_wp2_with fail
  refine (HRA.out _).mono ?_
  rintro e wx ⟨rfl,rfl⟩
  go_wp2_with fail
  go_ret
  exact ⟨rfl,⟨ws,H1.out⟩,EX.of_below HB1.out⟩
end
end Go.Proofs.YtdjpjfdeeelijaaGreatDoor
