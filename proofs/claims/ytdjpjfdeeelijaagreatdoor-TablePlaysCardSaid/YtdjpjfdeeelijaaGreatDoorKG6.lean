/- Merged: G60 G61 G62 G63 G69. -/
import Derived.Test.YtdjpjfdeeelijaaGreatDoorW10
import Derived.Test.YtdjpjfdeeelijaaGreatDoorW04
import Derived.Laws.BitsAllLaws
import Derived.Test.YtdjpjfdeeelijaaGreatDoorW05
import Derived.Maps.AppendAt
import Derived.IntWalk
namespace Go.Proofs.YtdjpjfdeeelijaaGreatDoor
open Go.RowKit Go.Sort
/-- A node's parts, and its name. -/
def pr (L:List ND)(i:Nat):List BL:=partsF (L.getD i default).path
def nmL (L:List ND)(i:Nat):BL:=(pr L i).getLastD []
theorem Lay.pr {L:List ND}{P:Nat→List BL}(h:Lay L P){i:Nat}(hi:i<L.length):pr L i=P i:=by
 unfold Go.Proofs.YtdjpjfdeeelijaaGreatDoor.pr
 rw [h.path i hi,(goodD_chk (h.good i hi)).2.1]
/-- A name in a directory's table is a node's there. -/
def Kid (L:List ND):Prop:=∀ d,d<L.length→∀ nm i,lookI (L.getD d default).names nm=some i→0<i∧i<L.length∧(L.getD i default).up=d∧pr L i=pr L d++[nm]
theorem kid0:Kid [root0]:=by
 intro d hd nm i h
 obtain rfl:d=0:=by simp at hd;omega
 cases h
theorem kid_add {L:List ND}{P:Nat→List BL}{x:EN}(hL:Lay L P)(hK:Kid L)(h:(addE L x).1=0):Kid (addE L x).2:=by
 obtain ⟨ds,j,he,hk,hu,h2,e⟩:=addE_ok h
 obtain ⟨rfl,hr,_,_,hch,hro,hne,hdd⟩:=entP_is he
 have hG:=goodD_of hch hro
 generalize partsF x.path=ds at *
 obtain ⟨l,nm,rfl⟩:∃ l nm,ds=l++[nm]:=by
  rcases ds.eq_nil_or_concat with h|⟨l,nm,h⟩
  ·exact absurd h hne
  ·exact ⟨l,nm,by simpa using h⟩
 rw [List.dropLast_concat] at hu
 rw [List.getLastD_concat] at e
 obtain ⟨hj,hjp⟩:=lookK_path hu
 rw [e]
 have hold:∀ i,i<L.length→pr (addN L j nm (newN (l++[nm]) j x)) i=pr L i∧((addN L j nm (newN (l++[nm]) j x)).getD i default).up=(L.getD i default).up:=fun i hi=>by
  obtain ⟨ns,h1,_⟩:=addN_same L j nm (newN (l++[nm]) j x) hi
  unfold pr
  rw [h1];exact ⟨rfl,rfl⟩
 have hnew:(addN L j nm (newN (l++[nm]) j x)).getD L.length default=newN (l++[nm]) j x:=addN_new ..
 have hpn:pr (addN L j nm (newN (l++[nm]) j x)) L.length=l++[nm]:=by
  unfold pr;rw [hnew]
  show partsF (pathJ (l++[nm]))=_
  rw [(goodD_chk hG).2.1]
 have hpj:pr L j=l:=by unfold pr;rw [hjp,(goodD_chk (goodD_init hG)).2.1]
 intro d hd q i hi
 rw [addN_len] at hd ⊢
 have fin:i<L.length→(0<i∧i<L.length∧(L.getD i default).up=d∧pr L i=pr L d++[q])→d<L.length→0<i∧i<L.length+1∧((addN L j nm (newN (l++[nm]) j x)).getD i default).up=d∧pr (addN L j nm (newN (l++[nm]) j x)) i=pr (addN L j nm (newN (l++[nm]) j x)) d++[q]:=by
  rintro h1 ⟨a1,a2,a3,a4⟩ h3
  rw [(hold i h1).1,(hold i h1).2,(hold d h3).1]
  exact ⟨a1,by omega,a3,a4⟩
 by_cases hdl:d=L.length
 ·subst hdl
  rw [hnew] at hi
  cases hi
 ·have hd':d<L.length:=by omega
  by_cases hdj:d=j
  ·subst hdj
   rw [addN_at L d nm _ hd'] at hi
   dsimp only at hi
   rw [lookI_snoc] at hi
   by_cases hq:nm=q
   ·rw [if_pos hq] at hi
    cases hi
    subst hq
    have:=hL.pos
    rw [hpn,hnew,(hold d hd').1,hpj]
    exact ⟨by omega,by omega,rfl,rfl⟩
   ·rw [if_neg hq] at hi
    have h9:=hK d hd' q i hi
    exact fin h9.2.1 h9 hd'
  ·rw [addN_old L j nm _ hd' hdj] at hi
   have h9:=hK d hd' q i hi
   exact fin h9.2.1 h9 hd'
theorem lay_kid:∀ (xs:List EN) (L:List ND) (P:Nat→List BL) (k:Nat),Lay L P→Kid L→(newE L k xs).1=0→Kid (newE L k xs).2.2
 | [],L,P,k,hL,hK,_=>hK
 | x::xs,L,P,k,hL,hK,h=>by
  by_cases hx:(addE L x).1=0
  ·rw [newE_go hx] at h ⊢
   obtain ⟨P1,hL1,_,_⟩:=lay_add hL hx
   exact lay_kid xs _ P1 (k+1) hL1 (kid_add hL hK hx) h
  ·rw [newE_no hx] at h;exact absurd h hx
/-- Who is a name's node in a directory, told by the nodes. -/
theorem kid_iff {L:List ND}{P:Nat→List BL}(hL:Lay L P)(hK:Kid L){d:Nat}(hd:d<L.length)(nm:BL)(i:Nat):lookI (L.getD d default).names nm=some i↔0<i∧i<L.length∧(L.getD i default).up=d∧nmL L i=nm:=by
 constructor
 ·intro h
  obtain ⟨h1,h2,h3,h4⟩:=hK d hd nm i h
  exact ⟨h1,h2,h3,by unfold nmL;rw [h4,List.getLastD_concat]⟩
 ·rintro ⟨h1,h2,rfl,rfl⟩
  obtain ⟨s1,s2,nm,s3,s4,s5⟩:=hL.step i h1 h2
  have:nmL L i=nm:=by unfold nmL;rw [hL.pr h2,s3,List.getLastD_concat]
  rw [this];exact s5
theorem kid_none {L:List ND}{P:Nat→List BL}(hL:Lay L P)(hK:Kid L){d:Nat}(hd:d<L.length){nm:BL}(h:∀ i,0<i→i<L.length→¬ ((L.getD i default).up=d∧nmL L i=nm)):lookI (L.getD d default).names nm=none:=by
 cases e:lookI (L.getD d default).names nm with
 | none=>rfl
 | some i=>
  obtain ⟨h1,h2,h3,h4⟩:=(kid_iff hL hK hd nm i).1 e
  exact absurd ⟨h3,h4⟩ (h i h1 h2)
/-- The node at some parts. -/
def atL (L:List ND):Nat→List BL→Option Nat
 | n,[]=>some n
 | n,p::r=>match lookI (L.getD n default).names p with
  | some m=>atL L m r
  | none=>none
theorem atL_cons (L:List ND)(n:Nat)(p:BL)(r:List BL):atL L n (p::r)=match lookI (L.getD n default).names p with
 | some m=>atL L m r
 | none=>none:=by rw [atL]
theorem atL_app (L:List ND):∀ (a b:List BL) (n:Nat),atL L n (a++b)=(atL L n a).bind fun m=>atL L m b
 | [],b,n=>rfl
 | p::a,b,n=>by
  rw [List.cons_append,atL_cons,atL_cons]
  cases lookI (L.getD n default).names p with
  | none=>rfl
  | some m=>exact atL_app L a b m
theorem atL_pr {L:List ND}(hK:Kid L):∀ (ds:List BL) (n m:Nat),n<L.length→atL L n ds=some m→m<L.length∧pr L m=pr L n++ds
 | [],n,m,hn,h=>by cases h;exact ⟨hn,by simp⟩
 | p::r,n,m,hn,h=>by
  rw [atL_cons] at h
  cases e:lookI (L.getD n default).names p with
  | none=>rw [e] at h;cases h
  | some k=>
   rw [e] at h
   obtain ⟨h1,h2,h3,h4⟩:=hK n hn p k e
   obtain ⟨h5,h6⟩:=atL_pr hK r k m h2 h
   exact ⟨h5,by rw [h6,h4];simp⟩
theorem pr_at {L:List ND}{P:Nat→List BL}(hL:Lay L P):∀ (m:Nat),m<L.length→atL L 0 (pr L m)=some m:=by
 intro m
 induction m using Nat.strongRecOn with
 | ind m ih=>
  intro hm
  rw [hL.pr hm]
  rcases Nat.eq_zero_or_pos m with rfl|h0
  ·rw [hL.zero];rfl
  ·obtain ⟨s1,s2,nm,s3,s4,s5⟩:=hL.step m h0 hm
   have:=ih _ s1 (by omega)
   rw [hL.pr (by omega)] at this
   rw [s3,atL_app,this]
   simp only [Option.bind_some]
   rw [atL_cons,s5]
   rfl
theorem at_look {L:List ND}{P:Nat→List BL}(hL:Lay L P)(hK:Kid L){ds:List BL}(hG:GoodD ds):atL L 0 ds=lookK L (pathJ ds):=by
 cases e:lookK L (pathJ ds) with
 | some j=>
  obtain ⟨h1,h2⟩:=lookK_path e
  have:pr L j=ds:=by unfold pr;rw [h2,(goodD_chk hG).2.1]
  rw [← this]
  exact pr_at hL j h1
 | none=>
  cases e2:atL L 0 ds with
  | none=>rfl
  | some m=>
   obtain ⟨h1,h2⟩:=atL_pr hK ds 0 m hL.pos e2
   rw [hL.pr hL.pos,hL.zero,List.nil_append] at h2
   refine absurd ?_ (lookK_none e m h1)
   rw [hL.path m h1,← hL.pr h1,h2]
theorem cpb_cap (a:Option Addr)(len cap:Nat)(l:List UInt8)(w:World)(hB:Byt w a len l)(hl:len≤140737488351232):
 Calls Tryz.prog 72 #[.slice a len cap] w fun e w'=>∃ a' c',e=.returned (.slice a' l.length c')∧Byt w' a' l.length l∧((a'=none→c'=0)∧l.length≤c')∧(∀ b,a'=some b→w.heap.size≤b.block∧b.block<w'.heap.size)∧Below w.heap.size w w':=by
 refine (cpb_any a len cap l w hB hl).mono ?_
 rintro e w' ⟨v,rfl,hv,hb⟩
 rcases hv with ⟨rfl,rfl⟩|⟨_,rfl,hr⟩
 ·exact ⟨none,0,rfl,Byt.nil _ _,⟨fun _=>rfl,Nat.le_refl _⟩,fun b h=>(by cases h),hb⟩
 ·exact ⟨_,_,rfl,Row.byt (rest:=[]) (by simpa using hr) rfl,⟨fun h=>(by cases h),Nat.le_refl _⟩,fun b h=>by cases h;exact ⟨Nat.le_refl _,hr.lt⟩,hb⟩
/-- A node of the reference; d tells where its bytes lie. -/
def rcs (L:List ND)(d:Nat→Option Addr × Nat)(i:Nat):List Value:=[.int .u8 (L.getD i default).kind,.int .u16 (L.getD i default).mode,.int .u32 (L.getD i default).uid,.int .u32 (L.getD i default).gid,.int .i64 (L.getD i default).size,.int .i64 ((L.getD i default).up:Nat),.string (ba (nmL L i)),.slice (d i).1 (L.getD i default).data.length (d i).2,.string (ba (L.getD i default).to)]
def rrs (L:List ND)(d:Nat→Option Addr × Nat):List (List Value):=(List.range L.length).map (rcs L d)
theorem rrs_len (L:List ND)(d:Nat→Option Addr × Nat):(rrs L d).length=L.length:=by simp [rrs]
theorem rrs_nine (L:List ND)(d:Nat→Option Addr × Nat):∀ r∈rrs L d,r.length=9:=by
 intro r hr
 obtain ⟨i,_,rfl⟩:=List.mem_map.1 hr
 rfl
/-- The reference's file system in memory. -/
structure RF (w:World)(G:Nat)(L:List ND)(d:Nat→Option Addr × Nat):Prop where
 fine:Fine L
 lay:∃ P,Lay L P
 kid:Kid L
 top:∃ a c,Row w G 138 [.slice a L.length c]∧Rk w 9 a L.length (rrs L d)
 data:∀ i,i<L.length→Byt w (d i).1 (L.getD i default).data.length (L.getD i default).data∧((d i).1=none→(d i).2=0)∧(L.getD i default).data.length≤(d i).2
theorem RF.below {w w':World}{G:Nat}{L:List ND}{d:Nat→Option Addr × Nat}(h:RF w G L d)(hb:Below w.heap.size w w'):RF w' G L d:=
 ⟨h.fine,h.lay,h.kid,by
  obtain ⟨a,c,h1,h2⟩:=h.top
  exact ⟨a,c,h1.below hb h1.lt,h2.below' hb⟩,fun i hi=>⟨(h.data i hi).1.below' hb,(h.data i hi).2⟩⟩
theorem RF.at {w:World}{G:Nat}{L:List ND}{d:Nat→Option Addr × Nat}(h:RF w G L d):∃ b o c,w.cell? ⟨G,0,none⟩=some (.slice (some ⟨b,o,none⟩) L.length c)∧G<w.heap.size∧b<w.heap.size∧
 ∀ i,i<L.length→(w.cell? ⟨b,o+i*9,none⟩=some (.int .u8 (L.getD i default).kind)∧w.cell? ⟨b,o+i*9+1,none⟩=some (.int .u16 (L.getD i default).mode)∧w.cell? ⟨b,o+i*9+2,none⟩=some (.int .u32 (L.getD i default).uid)∧w.cell? ⟨b,o+i*9+3,none⟩=some (.int .u32 (L.getD i default).gid)∧w.cell? ⟨b,o+i*9+4,none⟩=some (.int .i64 (L.getD i default).size))∧
  (w.cell? ⟨b,o+i*9+5,none⟩=some (.int .i64 ((L.getD i default).up:Nat))∧w.cell? ⟨b,o+i*9+6,none⟩=some (.string (ba (nmL L i)))∧w.cell? ⟨b,o+i*9+7,none⟩=some (.slice (d i).1 (L.getD i default).data.length (d i).2)∧w.cell? ⟨b,o+i*9+8,none⟩=some (.string (ba (L.getD i default).to))):=by
 obtain ⟨a,c,h1,h2⟩:=h.top
 obtain ⟨b,o,rfl,hat⟩:=h2.some_of (by rw [rrs_len];exact h.fine.pos)
 have hg:∀ i (hi:i<L.length) j (hj:j<9),w.cell? ⟨b,o+i*9+j,none⟩=some ((rcs L d i)[j]'hj):=fun i hi j hj=>by
  have e9:(rrs L d)[i]'(by rw [rrs_len];exact hi)=rcs L d i:=by simp [rrs]
  have:=hat i (by rw [rrs_len];exact hi) j (by rw [e9];exact hj)
  simp only [e9] at this
  exact this
 have hz:=World.block_lt_of_cell? w _ (hg 0 h.fine.pos 0 (by omega))
 refine ⟨b,o,c,h1.cell 0 (by simp),h1.lt,hz,fun i hi=>⟨⟨hg i hi 0 (by omega),hg i hi 1 (by omega),hg i hi 2 (by omega),hg i hi 3 (by omega),hg i hi 4 (by omega)⟩,hg i hi 5 (by omega),hg i hi 6 (by omega),hg i hi 7 (by omega),hg i hi 8 (by omega)⟩⟩
def kidV (L:List ND)(dir:Nat)(nm:BL):Int:=match lookI (L.getD dir default).names nm with
 | some i=>(i:Int)
 | none=>-1
theorem kidV_some {L:List ND}{dir:Nat}{nm:BL}{i:Nat}(h:lookI (L.getD dir default).names nm=some i):kidV L dir nm=(i:Int):=by unfold kidV;rw [h]
theorem kidV_none {L:List ND}{dir:Nat}{nm:BL}(h:lookI (L.getD dir default).names nm=none):kidV L dir nm=-1:=by unfold kidV;rw [h]
set_option maxRecDepth 100000 in
set_option maxHeartbeats 4000000 in
theorem rchild_any (G:Nat)(L:List ND)(d:Nat→Option Addr × Nat)(dir:Nat)(nm:BL)(w:World)(h:RF w G L d)(hd:dir<L.length):
 Calls Tryz.prog 117 #[.pointer (some ⟨G,0,none⟩),.int .i64 (dir:Nat),.string (ba nm)] w fun e w'=>e=.returned (.int .i64 (kidV L dir nm))∧w=w':=by
 obtain ⟨P,hL⟩:=h.lay
 have hK:=h.kid
 have hmost:=h.fine.most
 have hpos:=h.fine.pos
 have HIT:=hid (fun k (hk:0<k) (hk2:k<L.length) (hu:(L.getD k default).up=dir) (hn:nmL L k=nm)=>kidV_some ((kid_iff hL hK hd nm k).2 ⟨hk,hk2,hu,hn⟩))
 have HNO:=hid (fun h=>kidV_none (kid_none hL hK hd (nm:=nm) h))
 obtain ⟨b,o,c,x0,hG,hb,hat⟩:=h.at
 have HAT:=hid hat
 clear hat hL hK h
 go_enter Tryz.func117,Tryz.ntmps117
 go_wp2_with fail
 go_loop [7] (fun i=>∃ k:Nat,1≤k∧k≤L.length∧i=.int .i64 k∧∀ j,0<j→j<k→¬ ((L.getD j default).up=dir∧nmL L j=nm)) (fun i=>L.length-(intOf i).toNat)
 case atStart=>exact ⟨1,Nat.le_refl _,by omega,rfl,fun j h1 h2=>by omega⟩
 case round=>
  obtain ⟨k,hk1,hk,rfl,hno⟩:=hrel
  have HN:=hid hno
  clear hno
  by_cases hlt:k<L.length
  ·have d1:decide ((k:Int)<(L.length:Int))=true:=by simp;omega
   have d1n:decide (k<L.length)=true:=by simp;omega
   obtain ⟨_,g5,g6,_,_⟩:=HAT.out k hlt
   have HITk:=hid (HIT.out k hk1 hlt)
   have HNX:=hid (fun (h:¬ ((L.getD k default).up=dir∧nmL L k=nm))=>show ∀ j,0<j→j<k+1→¬ ((L.getD j default).up=dir∧nmL L j=nm) from fun j h1 h2=>by
    by_cases e:j=k
    ·subst e;exact h
    ·exact HN.out j h1 (by omega))
   have hq:=ba_beq2 (nmL L k) nm
   generalize (L.getD k default).up=u at *
   generalize nmL L k=q at *
   by_cases hu:u=dir
   ·have du:((u:Int)==(dir:Int))=true:=by simp [hu]
    have HU:=hid hu
    clear hu
    by_cases hn:q=nm
    ·rw [decide_eq_true hn] at hq
     have HF:=hid (HITk.out HU.out hn)
     clear hn
     go_wp2_with fail
     go_ret
     exact ⟨ret_i64 HF.out.symm,rfl⟩
    ·rw [decide_eq_false hn] at hq
     have HF:=hid (HNX.out (fun h=>hn h.2))
     clear hn
     go_wp2_with fail
     go_round
     case rel=>exact ⟨k+1,by omega,by omega,by go_num,HF.out⟩
     case measure=>simp [intOf];omega
   ·have du:((u:Int)==(dir:Int))=false:=by rw [beq_eq_false_iff_ne];omega
    have HF:=hid (HNX.out (fun h=>hu h.1))
    clear hu
    go_wp2_with fail
    go_round
    case rel=>exact ⟨k+1,by omega,by omega,by go_num,HF.out⟩
    case measure=>simp [intOf];omega
  ·have d1:decide ((k:Int)<(L.length:Int))=false:=by simp;omega
   have d1n:decide (k<L.length)=false:=by simp;omega
   have HF:=hid (HNO.out (fun i h1 h2=>HN.out i h1 (by omega)))
   go_wp2_with fail
   go_ret
   exact ⟨ret_i64 HF.out.symm,rfl⟩
set_option maxRecDepth 100000 in
set_option maxHeartbeats 2000000 in
theorem rmeta_in (G:Nat)(L:List ND)(d:Nat→Option Addr × Nat)(i:Nat)(w:World)(h:RF w G L d)(hi:i<L.length):
 Calls Tryz.prog 121 #[.pointer (some ⟨G,0,none⟩),.int .i64 i] w fun e w'=>e=.returned (.tuple #[metaV (L.getD i default),.int .i64 0])∧Below w.heap.size w w':=by
 have hmost:=h.fine.most
 have HB0:=hid (@bal w (.cells #[.int .u8 0,.int .u16 0,.int .u32 0,.int .u32 0,.int .i64 0] 124))
 obtain ⟨b,o,c,x0,hG,hb,hat⟩:=h.at
 obtain ⟨⟨g0,g1,g2,g3,g4⟩,_⟩:=hat i hi
 have d1:decide ((L.length:Int)≤(i:Int))=false:=by simp;omega
 have d1n:decide (L.length≤i)=false:=by simp;omega
 clear hat h
 generalize L.getD i default=x at *
 go_enter Tryz.func121,Tryz.ntmps121
 go_wp2_with fail
 refine bodyPost_ret (v:=.tuple #[metaV x,.int .i64 0]) (by simp [results,Tryz.f121,go_sem]) rfl ⟨rfl,?_⟩
 first|exact bal _|exact HB0.out|(repeat (first|with_reducible refine bset ?_ (by omega) _));exact HB0.out
theorem rmeta_out (G:Nat)(L:List ND)(d:Nat→Option Addr × Nat)(i:Int)(w:World)(h:RF w G L d)(hi:¬ (0≤i∧i<(L.length:Int))):
 Calls Tryz.prog 121 #[.pointer (some ⟨G,0,none⟩),.int .i64 i] w fun e w'=>e=.returned (.tuple #[.agg #[.int .u8 0,.int .u16 0,.int .u32 0,.int .u32 0,.int .i64 0],.int .i64 3])∧Below w.heap.size w w':=by
 have HB0:=hid (@bal w (.cells #[.int .u8 0,.int .u16 0,.int .u32 0,.int .u32 0,.int .i64 0] 124))
 obtain ⟨b,o,c,x0,hG,hb,hat⟩:=h.at
 clear hat h
 by_cases h0:i<0
 ·have d0:decide (i<0)=true:=by simpa using h0
  go_enter Tryz.func121,Tryz.ntmps121
  go_wp2_with fail
  refine bodyPost_ret (v:=.tuple #[.agg #[.int .u8 0,.int .u16 0,.int .u32 0,.int .u32 0,.int .i64 0],.int .i64 3]) (by simp [results,Tryz.f121,go_sem]) rfl ⟨rfl,?_⟩
  first|exact HB0.out|(repeat (first|with_reducible refine bset ?_ (by omega) _));exact HB0.out
 ·have d0:decide (i<0)=false:=by simpa using h0
  have d1:decide ((L.length:Int)≤i)=true:=by simp;omega
  go_enter Tryz.func121,Tryz.ntmps121
  go_wp2_with fail
  refine bodyPost_ret (v:=.tuple #[.agg #[.int .u8 0,.int .u16 0,.int .u32 0,.int .u32 0,.int .i64 0],.int .i64 3]) (by simp [results,Tryz.f121,go_sem]) rfl ⟨rfl,?_⟩
  first|exact HB0.out|(repeat (first|with_reducible refine bset ?_ (by omega) _));exact HB0.out
def atV (L:List ND)(ds:List BL):Int:=match atL L 0 ds with
 | some i=>(i:Int)
 | none=>-1
set_option maxRecDepth 100000 in
set_option maxHeartbeats 4000000 in
theorem rat_any (G:Nat)(L:List ND)(d:Nat→Option Addr × Nat)(a:Option Addr)(n c:Nat)(ds:List BL)(w:World)(h:RF w G L d)(hC:Cel w a n (strs ds))(hn:ds.length=n)(hl:n≤1000000):
 Calls Tryz.prog 71 #[.pointer (some ⟨G,0,none⟩),.slice a n c] w fun e w'=>e=.returned (.int .i64 (atV L ds))∧w=w':=by
 subst hn
 have HC:=hid hC
 have HR:=hid h
 have hpos:=h.fine.pos
 have HV:Hid (atV L ds=match atL L 0 ds with
 | some i=>(i:Int)
 | none=>-1):=hid rfl
 clear hC h
 go_enter Tryz.func71,Tryz.ntmps71
 go_wp2_with fail
 go_loop [5,6] (fun v i=>∃ k:Nat,k≤ds.length∧i=.int .i64 k∧((v=.int .i64 (-1)∧atV L ds=-1)∨∃ m:Nat,m<L.length∧v=.int .i64 m∧atL L m (ds.drop k)=atL L 0 ds)) (fun _ i=>ds.length-(intOf i).toNat)
 case atStart=>exact ⟨0,Nat.zero_le _,rfl,.inr ⟨0,hpos,rfl,rfl⟩⟩
 case round=>
  obtain ⟨k,hk,rfl,hv⟩:=hrel
  rcases hv with ⟨rfl,hv⟩|⟨m,hm,rfl,hat⟩
  ·have HF:=hid hv
   clear hv
   by_cases hlt:k<ds.length
   ·have d1:decide ((k:Int)<(ds.length:Int))=true:=by simp;omega
    have d1n:decide (k<ds.length)=true:=by simp;omega
    go_wp2_with fail
    go_ret
    exact ⟨ret_i64 HF.out.symm,rfl⟩
   ·have d1:decide ((k:Int)<(ds.length:Int))=false:=by simp;omega
    have d1n:decide (k<ds.length)=false:=by simp;omega
    go_wp2_with fail
    go_ret
    exact ⟨ret_i64 HF.out.symm,rfl⟩
  ·have HAT:=hid hat
   clear hat
   by_cases hlt:k<ds.length
   ·have d1:decide ((k:Int)<(ds.length:Int))=true:=by simp;omega
    have d1n:decide (k<ds.length)=true:=by simp;omega
    obtain ⟨b,o,rfl,hcell⟩:=HC.out.some_of (by simp [strs];omega)
    have g:=strs_at hcell hlt
    have HDR:=hid (List.drop_eq_getElem_cons hlt)
    generalize ds[k]=p at *
    have HCH:=hid (rchild_any G L d m p w HR.out hm)
    clear hcell
    cases hlk:lookI (L.getD m default).names p with
    | none=>
     rw [kidV_none hlk] at HCH
     have HNX:=hid (show atV L ds=-1 by rw [HV.out,← HAT.out,HDR.out,atL_cons,hlk])
     clear hlk
     go_wp2_with fail
     refine (HCH.out).mono ?_
     rintro e' w1 ⟨rfl,rfl⟩
     go_wp2_with fail
     go_round
     case rel=>exact ⟨k+1,by omega,by go_num,.inl ⟨rfl,HNX.out⟩⟩
     case measure=>simp [intOf];omega
    | some j=>
     rw [kidV_some hlk] at HCH
     have HJ:=hid (HR.out.kid m hm p j hlk).2.1
     have HNX:=hid (show atL L j (ds.drop (k+1))=atL L 0 ds by rw [← HAT.out,HDR.out,atL_cons,hlk])
     clear hlk
     go_wp2_with fail
     refine (HCH.out).mono ?_
     rintro e' w1 ⟨rfl,rfl⟩
     go_wp2_with fail
     go_round
     case rel=>exact ⟨k+1,by omega,by go_num,.inr ⟨j,HJ.out,rfl,HNX.out⟩⟩
     case measure=>simp [intOf];omega
   ·have d1:decide ((k:Int)<(ds.length:Int))=false:=by simp;omega
    have d1n:decide (k<ds.length)=false:=by simp;omega
    have HF:=hid (show atV L ds=(m:Int) by rw [HV.out,← HAT.out,List.drop_eq_nil_of_le (by omega),atL])
    go_wp2_with fail
    go_ret
    exact ⟨ret_i64 HF.out.symm,rfl⟩
def mayR (x:EN):Int:=match entP x with
 | none=>1
 | some _=>if 65536<x.data.length then 12 else 0
theorem mayR_no {x:EN}(h:¬ entB x):mayR x=1:=by unfold mayR;rw [entP_no h]
theorem mayR_big {x:EN}(h:entB x)(hb:65536<x.data.length):mayR x=12:=by unfold mayR;rw [entP_yes h];simp [hb]
theorem mayR_ok {x:EN}(h:entB x)(hb:¬ 65536<x.data.length):mayR x=0:=by unfold mayR;rw [entP_yes h];simp only [if_neg hb]
theorem mode_iff {m:Int}(h0:0≤m)(h1:m≤65535):bits .and .u16 m 2559=m↔bits .andNot .u16 m 2559=0:=by
 obtain ⟨n,rfl⟩:=Int.eq_ofNat_of_zero_le h0
 have e1:=u16_and_nat n 2559 (by omega) (by omega)
 have e2:=u16_andNot_nat n 2559 (by omega) (by omega)
 rw [show ((2559:Nat):Int)=2559 from rfl] at e1 e2
 rw [e1,e2]
 have hs:n &&& 65535=n:=by
  have:=Nat.and_two_pow_sub_one_eq_mod n 16
  rw [show 2 ^ 16-1=65535 from rfl] at this
  rw [this];omega
 have hd:65535=2559 ||| 62976:=by decide
 have hz:2559 &&& 62976=0:=by decide
 constructor
 ·intro h
  have h2:n &&& 2559=n:=by omega
  have:n &&& 62976=0:=by rw [← h2,Nat.and_assoc,hz,Nat.and_zero]
  simp [this]
 ·intro h
  have h2:n &&& 62976=0:=by have:((n &&& (65535-2559):Nat):Int)=0:=h;simpa using this
  have h3:n=n &&& (2559 ||| 62976):=by rw [← hd,hs]
  rw [Nat.and_or_distrib_left,h2,Nat.or_zero] at h3
  rw [← h3]
set_option maxRecDepth 100000 in
set_option maxHeartbeats 8000000 in
theorem rmay6_any (x:EN)(w:World)(hx:EnOk w x):
 Calls Tryz.prog 69 #[.agg x.cs.toArray] w fun e w'=>e=.returned (.int .i64 (mayR x))∧Below w.heap.size w w':=by
 have HB0:=hid (show Below w.heap.size w (w.alloc (.cells x.cs.toArray 131)) from bal _)
 have HR0:=hid (Row.new w 131 x.cs)
 have HPL:=hid hx.path
 have HTL:=hid hx.to
 have HDL:=hid hx.data
 have hmode:=hx.mode
 have HMI:=hid (mode_iff hmode.1 hmode.2)
 have HNO:=hid (@mayR_no x)
 have HBIG:=hid (@mayR_big x)
 have HOK:=hid (@mayR_ok x)
 have HEB:Hid (entB x=(rightK x=true∧bits .andNot .u16 x.mode 2559=0∧tailB x.path=false∧chkE x.path=0∧rootF x.path=true∧partsF x.path≠[]∧dotB (partsF x.path)=false)):=hid rfl
 have HRK:Hid (rightK x=if x.kind=1 then decide (x.to=[]) else if x.kind=2 then decide (x.to=[])&&decide (x.data=[]) else if x.kind=3 then decide (x.data=[])&&decide (chkE x.to=0) else false):=hid rfl
 clear hx hmode
 unfold EN.cs at HB0 HR0 ⊢
 generalize entB x=EB at *
 generalize rightK x=RK at *
 generalize mayR x=MR at *
 obtain ⟨xp,kd,xm,xu,xg,xa,xc,xd,xt⟩:=x
 dsimp only at *
 have hcases:kd=1∨kd=2∨kd=3∨(kd≠1∧kd≠2∧kd≠3):=by omega
 rcases hcases with rfl|rfl|rfl|⟨n1,n2,n3⟩
 ·by_cases hm:bits .and .u16 xm 2559=xm
  ·have dm:(bits .and .u16 xm 2559 != xm)=false:=by simpa using hm
   have HM:=hid (HMI.out.1 hm)
   obtain ⟨c0,c1,c2,c3,c4,c5,c6⟩:=HR0.out.seven
   have hl0:=HR0.out.lt
   clear hm
   go_enter Tryz.func69,Tryz.ntmps69
   go_wp2_with fail
   refine (rparts_any (ba xp) _ (by rw [ba_size];exact HPL.out)).mono ?_
   rintro e' w2 ⟨v,rfl,ho,hb⟩
   rw [show (ba xp).data.toList=xp from rfl] at ho ⊢
   have HB2:=hid (bthen HB0.out hb)
   have HR2:=hid (HR0.out.below hb HR0.out.lt)
   obtain ⟨av,cv,rfl,hcel,_⟩:=own_cel ho
   have HC:=hid hcel
   clear ho hb hcel c0 c1 c2 c3 c4 c5 c6 hl0
   by_cases hc:chkE xp=0
   ·rw [hc]
    cases hr:rootF xp
    ·have HF:=hid (HNO.out (by rw [HEB.out,hr];rintro ⟨_,_,_,_,h,_⟩;cases h))
     clear hr hc
     go_wp2_with fail
     go_ret
     exact ⟨ret_i64 HF.out.symm,HB2.out⟩
    ·have hlz:=len_zero (partsF xp)
     by_cases hn:partsF xp=[]
     ·rw [decide_eq_true hn] at hlz
      have HF:=hid (HNO.out (by rw [HEB.out];exact fun h=>h.2.2.2.2.2.1 hn))
      clear hn hr hc
      go_wp2_with fail
      go_ret
      exact ⟨ret_i64 HF.out.symm,HB2.out⟩
     ·rw [decide_eq_false hn] at hlz
      have HN9:=hid hn
      have HC9:=hid hc
      have HR9:=hid hr
      clear hn hr hc
      obtain ⟨c0,c1,c2,c3,c4,c5,c6⟩:=HR2.out.seven
      have hl0:=HR2.out.lt
      go_wp2_with fail
      refine (rtail_any (ba xp) w2 (by rw [ba_size];exact HPL.out)).mono ?_
      rintro e' w3 ⟨rfl,rfl⟩
      rw [show (ba xp).data.toList=xp from rfl]
      cases ht:tailB xp
      ·have HYES:=hid (fun (h1:RK=true) (h:dotB (partsF xp)=false)=>show EB by rw [HEB.out];exact ⟨h1,HM.out,ht,HC9.out,HR9.out,HN9.out,h⟩)
       have HDOT:=hid (fun (h:dotB (partsF xp)=true)=>HNO.out (by rw [HEB.out,h];rintro ⟨_,_,_,_,_,_,h⟩;cases h))
       have HRKN:=hid (fun (h:RK=false)=>HNO.out (by rw [HEB.out,h];rintro ⟨h,_⟩;cases h))
       have hdl:=parts_count xp
       clear ht HEB
       generalize partsF xp=ds at *
       go_wp2_with fail
       go_loop [6] (fun i=>∃ k:Nat,k≤ds.length∧i=.int .i64 k∧dotB (ds.take k)=false) (fun i=>ds.length-(intOf i).toNat)
       case atStart=>exact ⟨0,Nat.zero_le _,rfl,rfl⟩
       case round=>
        obtain ⟨k,hkk,rfl,hdb⟩:=hrel
        have HDB:=hid hdb
        clear hdb
        by_cases hlt:k<ds.length
        ·have d1:decide ((k:Int)<(ds.length:Int))=true:=by simp;omega
         have d1n:decide (k<ds.length)=true:=by simp;omega
         obtain ⟨b,o,rfl,hcell⟩:=HC.out.some_of (by simp [strs];omega)
         have hx':=strs_at hcell hlt
         have hlb:=World.block_lt_of_cell? _ _ hx'
         dsimp only at hlb
         have hq:=ba_beq ds[k] [46,46]
         have HTK:=hid (show dotB (ds.take (k+1))=(dotB (ds.take k)||decide (ds[k]=[46,46])) by unfold dotB;rw [List.take_succ_eq_append_getElem hlt,List.any_append];simp)
         have HALL:=hid (fun (h:ds[k]=[46,46])=>show dotB ds=true from List.any_eq_true.2 ⟨ds[k],List.getElem_mem hlt,by simp [h]⟩)
         generalize ds[k]=p at *
         clear hcell
         by_cases hp:p=[46,46]
         ·have HF:=hid (HDOT.out (HALL.out hp))
          rw [decide_eq_true hp] at hq
          clear hp
          go_wp2_with fail
          go_ret
          exact ⟨ret_i64 HF.out.symm,HB2.out⟩
         ·rw [decide_eq_false hp] at hq HTK
          clear hp
          go_wp2_with fail
          go_round
          case rel=>exact ⟨k+1,by omega,by go_num,by rw [HTK.out,HDB.out];rfl⟩
          case measure=>simp [intOf];omega
        ·have d1:decide ((k:Int)<(ds.length:Int))=false:=by simp;omega
         have d1n:decide (k<ds.length)=false:=by simp;omega
         have HYY:=hid (fun (h1:RK=true)=>HYES.out h1 (by have:=HDB.out;rwa [List.take_of_length_le (by omega)] at this))
         have ez:=ba_nil (ba xt)
         have hxd:=HDL.out
         clear HDB hlt hkk
         rw [show (ba xt).data.toList=xt from rfl] at ez
         by_cases ht0:xt=[]
         ·rw [decide_eq_true ht0] at ez
          have HBF:=HB2
          have HRT:=hid (show RK=true by rw [HRK.out];simp [ht0])
          by_cases hbig:65536<xd.length
          ·have db:decide ((65536:Int)<(xd.length:Int))=true:=by simp;omega
           have HF:=hid (HBIG.out (HYY.out HRT.out) hbig)
           clear hbig ht0
           go_wp2_with fail
           go_ret
           exact ⟨ret_i64 HF.out.symm,HBF.out⟩
          ·have db:decide ((65536:Int)<(xd.length:Int))=false:=by simp;omega
           have HF:=hid (HOK.out (HYY.out HRT.out) hbig)
           clear hbig ht0
           go_wp2_with fail
           go_ret
           exact ⟨ret_i64 HF.out.symm,HBF.out⟩
         ·rw [decide_eq_false ht0] at ez
          have HF:=hid (HRKN.out (by rw [HRK.out];simp [ht0]))
          clear ht0
          go_wp2_with fail
          go_ret
          exact ⟨ret_i64 HF.out.symm,HB2.out⟩
      ·have HF:=hid (HNO.out (by rw [HEB.out,ht];rintro ⟨_,_,h,_⟩;cases h))
       clear ht
       go_wp2_with fail
       go_ret
       exact ⟨ret_i64 HF.out.symm,HB2.out⟩
   ·have hc2:(chkE xp != 0)=true:=by simpa using hc
    have HF:=hid (HNO.out (by rw [HEB.out];exact fun h=>hc h.2.2.2.1))
    clear hc
    go_wp2_with fail
    go_ret
    exact ⟨ret_i64 HF.out.symm,HB2.out⟩
  ·have dm:(bits .and .u16 xm 2559 != xm)=true:=by simpa using hm
   have HF:=hid (HNO.out (by rw [HEB.out];exact fun h=>hm (HMI.out.2 h.2.1)))
   obtain ⟨c0,c1,c2,c3,c4,c5,c6⟩:=HR0.out.seven
   have hl0:=HR0.out.lt
   clear hm
   go_enter Tryz.func69,Tryz.ntmps69
   go_wp2_with fail
   go_ret
   exact ⟨ret_i64 HF.out.symm,HB0.out⟩
 ·by_cases hm:bits .and .u16 xm 2559=xm
  ·have dm:(bits .and .u16 xm 2559 != xm)=false:=by simpa using hm
   have HM:=hid (HMI.out.1 hm)
   obtain ⟨c0,c1,c2,c3,c4,c5,c6⟩:=HR0.out.seven
   have hl0:=HR0.out.lt
   clear hm
   go_enter Tryz.func69,Tryz.ntmps69
   go_wp2_with fail
   refine (rparts_any (ba xp) _ (by rw [ba_size];exact HPL.out)).mono ?_
   rintro e' w2 ⟨v,rfl,ho,hb⟩
   rw [show (ba xp).data.toList=xp from rfl] at ho ⊢
   have HB2:=hid (bthen HB0.out hb)
   have HR2:=hid (HR0.out.below hb HR0.out.lt)
   obtain ⟨av,cv,rfl,hcel,_⟩:=own_cel ho
   have HC:=hid hcel
   clear ho hb hcel c0 c1 c2 c3 c4 c5 c6 hl0
   by_cases hc:chkE xp=0
   ·rw [hc]
    cases hr:rootF xp
    ·have HF:=hid (HNO.out (by rw [HEB.out,hr];rintro ⟨_,_,_,_,h,_⟩;cases h))
     clear hr hc
     go_wp2_with fail
     go_ret
     exact ⟨ret_i64 HF.out.symm,HB2.out⟩
    ·have hlz:=len_zero (partsF xp)
     by_cases hn:partsF xp=[]
     ·rw [decide_eq_true hn] at hlz
      have HF:=hid (HNO.out (by rw [HEB.out];exact fun h=>h.2.2.2.2.2.1 hn))
      clear hn hr hc
      go_wp2_with fail
      go_ret
      exact ⟨ret_i64 HF.out.symm,HB2.out⟩
     ·rw [decide_eq_false hn] at hlz
      have HN9:=hid hn
      have HC9:=hid hc
      have HR9:=hid hr
      clear hn hr hc
      obtain ⟨c0,c1,c2,c3,c4,c5,c6⟩:=HR2.out.seven
      have hl0:=HR2.out.lt
      go_wp2_with fail
      refine (rtail_any (ba xp) w2 (by rw [ba_size];exact HPL.out)).mono ?_
      rintro e' w3 ⟨rfl,rfl⟩
      rw [show (ba xp).data.toList=xp from rfl]
      cases ht:tailB xp
      ·have HYES:=hid (fun (h1:RK=true) (h:dotB (partsF xp)=false)=>show EB by rw [HEB.out];exact ⟨h1,HM.out,ht,HC9.out,HR9.out,HN9.out,h⟩)
       have HDOT:=hid (fun (h:dotB (partsF xp)=true)=>HNO.out (by rw [HEB.out,h];rintro ⟨_,_,_,_,_,_,h⟩;cases h))
       have HRKN:=hid (fun (h:RK=false)=>HNO.out (by rw [HEB.out,h];rintro ⟨h,_⟩;cases h))
       have hdl:=parts_count xp
       clear ht HEB
       generalize partsF xp=ds at *
       go_wp2_with fail
       go_loop [6] (fun i=>∃ k:Nat,k≤ds.length∧i=.int .i64 k∧dotB (ds.take k)=false) (fun i=>ds.length-(intOf i).toNat)
       case atStart=>exact ⟨0,Nat.zero_le _,rfl,rfl⟩
       case round=>
        obtain ⟨k,hkk,rfl,hdb⟩:=hrel
        have HDB:=hid hdb
        clear hdb
        by_cases hlt:k<ds.length
        ·have d1:decide ((k:Int)<(ds.length:Int))=true:=by simp;omega
         have d1n:decide (k<ds.length)=true:=by simp;omega
         obtain ⟨b,o,rfl,hcell⟩:=HC.out.some_of (by simp [strs];omega)
         have hx':=strs_at hcell hlt
         have hlb:=World.block_lt_of_cell? _ _ hx'
         dsimp only at hlb
         have hq:=ba_beq ds[k] [46,46]
         have HTK:=hid (show dotB (ds.take (k+1))=(dotB (ds.take k)||decide (ds[k]=[46,46])) by unfold dotB;rw [List.take_succ_eq_append_getElem hlt,List.any_append];simp)
         have HALL:=hid (fun (h:ds[k]=[46,46])=>show dotB ds=true from List.any_eq_true.2 ⟨ds[k],List.getElem_mem hlt,by simp [h]⟩)
         generalize ds[k]=p at *
         clear hcell
         by_cases hp:p=[46,46]
         ·have HF:=hid (HDOT.out (HALL.out hp))
          rw [decide_eq_true hp] at hq
          clear hp
          go_wp2_with fail
          go_ret
          exact ⟨ret_i64 HF.out.symm,HB2.out⟩
         ·rw [decide_eq_false hp] at hq HTK
          clear hp
          go_wp2_with fail
          go_round
          case rel=>exact ⟨k+1,by omega,by go_num,by rw [HTK.out,HDB.out];rfl⟩
          case measure=>simp [intOf];omega
        ·have d1:decide ((k:Int)<(ds.length:Int))=false:=by simp;omega
         have d1n:decide (k<ds.length)=false:=by simp;omega
         have HYY:=hid (fun (h1:RK=true)=>HYES.out h1 (by have:=HDB.out;rwa [List.take_of_length_le (by omega)] at this))
         have ez:=ba_nil (ba xt)
         have hxd:=HDL.out
         clear HDB hlt hkk
         rw [show (ba xt).data.toList=xt from rfl] at ez
         by_cases hd0:xd=[]
         ·have dd:decide ((0:Int)<(xd.length:Int))=false:=by rw [hd0];rfl
          have ddn:decide (0<xd.length)=false:=by rw [hd0];rfl
          by_cases ht0:xt=[]
          ·rw [decide_eq_true ht0] at ez
           have HBF:=HB2
           have HRT:=hid (show RK=true by rw [HRK.out];simp [ht0,hd0])
           by_cases hbig:65536<xd.length
           ·have db:decide ((65536:Int)<(xd.length:Int))=true:=by simp;omega
            have HF:=hid (HBIG.out (HYY.out HRT.out) hbig)
            clear hbig ht0 hd0
            go_wp2_with fail
            go_ret
            exact ⟨ret_i64 HF.out.symm,HBF.out⟩
           ·have db:decide ((65536:Int)<(xd.length:Int))=false:=by simp;omega
            have HF:=hid (HOK.out (HYY.out HRT.out) hbig)
            clear hbig ht0 hd0
            go_wp2_with fail
            go_ret
            exact ⟨ret_i64 HF.out.symm,HBF.out⟩
          ·rw [decide_eq_false ht0] at ez
           have HF:=hid (HRKN.out (by rw [HRK.out];simp [ht0]))
           clear ht0 hd0
           go_wp2_with fail
           go_ret
           exact ⟨ret_i64 HF.out.symm,HB2.out⟩
         ·have dp:=List.length_pos_iff.2 hd0
          have dd:decide ((0:Int)<(xd.length:Int))=true:=by simp;omega
          have ddn:decide (0<xd.length)=true:=by simp;omega
          have HF:=hid (HRKN.out (by rw [HRK.out];simp [hd0]))
          clear hd0
          go_wp2_with fail
          go_ret
          exact ⟨ret_i64 HF.out.symm,HB2.out⟩
      ·have HF:=hid (HNO.out (by rw [HEB.out,ht];rintro ⟨_,_,h,_⟩;cases h))
       clear ht
       go_wp2_with fail
       go_ret
       exact ⟨ret_i64 HF.out.symm,HB2.out⟩
   ·have hc2:(chkE xp != 0)=true:=by simpa using hc
    have HF:=hid (HNO.out (by rw [HEB.out];exact fun h=>hc h.2.2.2.1))
    clear hc
    go_wp2_with fail
    go_ret
    exact ⟨ret_i64 HF.out.symm,HB2.out⟩
  ·have dm:(bits .and .u16 xm 2559 != xm)=true:=by simpa using hm
   have HF:=hid (HNO.out (by rw [HEB.out];exact fun h=>hm (HMI.out.2 h.2.1)))
   obtain ⟨c0,c1,c2,c3,c4,c5,c6⟩:=HR0.out.seven
   have hl0:=HR0.out.lt
   clear hm
   go_enter Tryz.func69,Tryz.ntmps69
   go_wp2_with fail
   go_ret
   exact ⟨ret_i64 HF.out.symm,HB0.out⟩
 ·by_cases hm:bits .and .u16 xm 2559=xm
  ·have dm:(bits .and .u16 xm 2559 != xm)=false:=by simpa using hm
   have HM:=hid (HMI.out.1 hm)
   obtain ⟨c0,c1,c2,c3,c4,c5,c6⟩:=HR0.out.seven
   have hl0:=HR0.out.lt
   clear hm
   go_enter Tryz.func69,Tryz.ntmps69
   go_wp2_with fail
   refine (rparts_any (ba xp) _ (by rw [ba_size];exact HPL.out)).mono ?_
   rintro e' w2 ⟨v,rfl,ho,hb⟩
   rw [show (ba xp).data.toList=xp from rfl] at ho ⊢
   have HB2:=hid (bthen HB0.out hb)
   have HR2:=hid (HR0.out.below hb HR0.out.lt)
   obtain ⟨av,cv,rfl,hcel,_⟩:=own_cel ho
   have HC:=hid hcel
   clear ho hb hcel c0 c1 c2 c3 c4 c5 c6 hl0
   by_cases hc:chkE xp=0
   ·rw [hc]
    cases hr:rootF xp
    ·have HF:=hid (HNO.out (by rw [HEB.out,hr];rintro ⟨_,_,_,_,h,_⟩;cases h))
     clear hr hc
     go_wp2_with fail
     go_ret
     exact ⟨ret_i64 HF.out.symm,HB2.out⟩
    ·have hlz:=len_zero (partsF xp)
     by_cases hn:partsF xp=[]
     ·rw [decide_eq_true hn] at hlz
      have HF:=hid (HNO.out (by rw [HEB.out];exact fun h=>h.2.2.2.2.2.1 hn))
      clear hn hr hc
      go_wp2_with fail
      go_ret
      exact ⟨ret_i64 HF.out.symm,HB2.out⟩
     ·rw [decide_eq_false hn] at hlz
      have HN9:=hid hn
      have HC9:=hid hc
      have HR9:=hid hr
      clear hn hr hc
      obtain ⟨c0,c1,c2,c3,c4,c5,c6⟩:=HR2.out.seven
      have hl0:=HR2.out.lt
      go_wp2_with fail
      refine (rtail_any (ba xp) w2 (by rw [ba_size];exact HPL.out)).mono ?_
      rintro e' w3 ⟨rfl,rfl⟩
      rw [show (ba xp).data.toList=xp from rfl]
      cases ht:tailB xp
      ·have HYES:=hid (fun (h1:RK=true) (h:dotB (partsF xp)=false)=>show EB by rw [HEB.out];exact ⟨h1,HM.out,ht,HC9.out,HR9.out,HN9.out,h⟩)
       have HDOT:=hid (fun (h:dotB (partsF xp)=true)=>HNO.out (by rw [HEB.out,h];rintro ⟨_,_,_,_,_,_,h⟩;cases h))
       have HRKN:=hid (fun (h:RK=false)=>HNO.out (by rw [HEB.out,h];rintro ⟨h,_⟩;cases h))
       have hdl:=parts_count xp
       clear ht HEB
       generalize partsF xp=ds at *
       go_wp2_with fail
       go_loop [6] (fun i=>∃ k:Nat,k≤ds.length∧i=.int .i64 k∧dotB (ds.take k)=false) (fun i=>ds.length-(intOf i).toNat)
       case atStart=>exact ⟨0,Nat.zero_le _,rfl,rfl⟩
       case round=>
        obtain ⟨k,hkk,rfl,hdb⟩:=hrel
        have HDB:=hid hdb
        clear hdb
        by_cases hlt:k<ds.length
        ·have d1:decide ((k:Int)<(ds.length:Int))=true:=by simp;omega
         have d1n:decide (k<ds.length)=true:=by simp;omega
         obtain ⟨b,o,rfl,hcell⟩:=HC.out.some_of (by simp [strs];omega)
         have hx':=strs_at hcell hlt
         have hlb:=World.block_lt_of_cell? _ _ hx'
         dsimp only at hlb
         have hq:=ba_beq ds[k] [46,46]
         have HTK:=hid (show dotB (ds.take (k+1))=(dotB (ds.take k)||decide (ds[k]=[46,46])) by unfold dotB;rw [List.take_succ_eq_append_getElem hlt,List.any_append];simp)
         have HALL:=hid (fun (h:ds[k]=[46,46])=>show dotB ds=true from List.any_eq_true.2 ⟨ds[k],List.getElem_mem hlt,by simp [h]⟩)
         generalize ds[k]=p at *
         clear hcell
         by_cases hp:p=[46,46]
         ·have HF:=hid (HDOT.out (HALL.out hp))
          rw [decide_eq_true hp] at hq
          clear hp
          go_wp2_with fail
          go_ret
          exact ⟨ret_i64 HF.out.symm,HB2.out⟩
         ·rw [decide_eq_false hp] at hq HTK
          clear hp
          go_wp2_with fail
          go_round
          case rel=>exact ⟨k+1,by omega,by go_num,by rw [HTK.out,HDB.out];rfl⟩
          case measure=>simp [intOf];omega
        ·have d1:decide ((k:Int)<(ds.length:Int))=false:=by simp;omega
         have d1n:decide (k<ds.length)=false:=by simp;omega
         have HYY:=hid (fun (h1:RK=true)=>HYES.out h1 (by have:=HDB.out;rwa [List.take_of_length_le (by omega)] at this))
         have ez:=ba_nil (ba xt)
         have hxd:=HDL.out
         clear HDB hlt hkk
         rw [show (ba xt).data.toList=xt from rfl] at ez
         by_cases hd0:xd=[]
         ·have dd:decide ((0:Int)<(xd.length:Int))=false:=by rw [hd0];rfl
          have ddn:decide (0<xd.length)=false:=by rw [hd0];rfl
          have HD0:=hid hd0
          clear hd0
          go_wp2_with fail
          refine (rcheck_any (ba xt) w2 (by rw [ba_size];exact HTL.out)).mono ?_
          rintro e' w4 ⟨rfl,hb⟩
          rw [show (ba xt).data.toList=xt from rfl]
          have HBF:=hid (bthen HB2.out hb)
          have HRF:=hid (HR2.out.below hb HR2.out.lt)
          clear hb c0 c1 c2 c3 c4 c5 c6 hl0
          obtain ⟨c0,c1,c2,c3,c4,c5,c6⟩:=HRF.out.seven
          have hl0:=HRF.out.lt
          by_cases hk0:chkE xt=0
          ·rw [hk0]
           have HRT:=hid (show RK=true by rw [HRK.out];simp [hk0,HD0.out])
           by_cases hbig:65536<xd.length
           ·have db:decide ((65536:Int)<(xd.length:Int))=true:=by simp;omega
            have HF:=hid (HBIG.out (HYY.out HRT.out) hbig)
            clear hbig hk0
            go_wp2_with fail
            go_ret
            exact ⟨ret_i64 HF.out.symm,HBF.out⟩
           ·have db:decide ((65536:Int)<(xd.length:Int))=false:=by simp;omega
            have HF:=hid (HOK.out (HYY.out HRT.out) hbig)
            clear hbig hk0
            go_wp2_with fail
            go_ret
            exact ⟨ret_i64 HF.out.symm,HBF.out⟩
          ·have hk2:(chkE xt != 0)=true:=by simpa using hk0
           have HF:=hid (HRKN.out (by rw [HRK.out];simp [hk0]))
           clear hk0
           go_wp2_with fail
           go_ret
           exact ⟨ret_i64 HF.out.symm,HBF.out⟩
         ·have dp:=List.length_pos_iff.2 hd0
          have dd:decide ((0:Int)<(xd.length:Int))=true:=by simp;omega
          have ddn:decide (0<xd.length)=true:=by simp;omega
          have HF:=hid (HRKN.out (by rw [HRK.out];simp [hd0]))
          clear hd0
          go_wp2_with fail
          go_ret
          exact ⟨ret_i64 HF.out.symm,HB2.out⟩
      ·have HF:=hid (HNO.out (by rw [HEB.out,ht];rintro ⟨_,_,h,_⟩;cases h))
       clear ht
       go_wp2_with fail
       go_ret
       exact ⟨ret_i64 HF.out.symm,HB2.out⟩
   ·have hc2:(chkE xp != 0)=true:=by simpa using hc
    have HF:=hid (HNO.out (by rw [HEB.out];exact fun h=>hc h.2.2.2.1))
    clear hc
    go_wp2_with fail
    go_ret
    exact ⟨ret_i64 HF.out.symm,HB2.out⟩
  ·have dm:(bits .and .u16 xm 2559 != xm)=true:=by simpa using hm
   have HF:=hid (HNO.out (by rw [HEB.out];exact fun h=>hm (HMI.out.2 h.2.1)))
   obtain ⟨c0,c1,c2,c3,c4,c5,c6⟩:=HR0.out.seven
   have hl0:=HR0.out.lt
   clear hm
   go_enter Tryz.func69,Tryz.ntmps69
   go_wp2_with fail
   go_ret
   exact ⟨ret_i64 HF.out.symm,HB0.out⟩
 ·have k1:(kd != 1)=true:=by simpa using n1
  have k2:(kd != 2)=true:=by simpa using n2
  have k3:(kd != 3)=true:=by simpa using n3
  have HF:=hid (HNO.out (by rw [HEB.out,HRK.out,if_neg n1,if_neg n2,if_neg n3];rintro ⟨h,_⟩;cases h))
  obtain ⟨c0,c1,c2,c3,c4,c5,c6⟩:=HR0.out.seven
  have hl0:=HR0.out.lt
  clear n1 n2 n3
  go_enter Tryz.func69,Tryz.ntmps69
  go_wp2_with fail
  go_ret
  exact ⟨ret_i64 HF.out.symm,HB0.out⟩
theorem own_row_neK {w:World}{base e size n b T:Nat}{v:Value}{xs cs:List Value}(h:w.ownsRow base e size v n xs)(hr:Row w b T cs)(hT:T≠e):some b≠v.ownBlock:=by
 rcases h.2 with ⟨h1,_⟩|⟨g,cap,cur,rfl,hb,hg,_⟩
 ·rw [h1];exact fun e=>by cases e
 ·intro e1
  simp only [Value.ownBlock,Option.some.injEq] at e1
  subst e1
  have:=hr.heap
  rw [hg] at this
  simp at this
  exact hT this.2.symm
theorem infoRN:(Tryz.prog.info? 140).map (fun i=>(i.zero,i.size,i.bytes))=some (some (.agg #[.int .u8 0,.int .u16 0,.int .u32 0,.int .u32 0,.int .i64 0,.int .i64 0,.string ByteArray.empty,.slice none 0 0,.string ByteArray.empty]),9,88):=by kernel_rfl
theorem one_rk (w:World)(T:TypeId)(r:List Value){k:Nat}(hr:r.length=k):Rk (w.alloc (.cells r.toArray T)) k (some ⟨w.heap.size,0,none⟩) 1 [r]:=by
 refine ⟨rfl,fun i hi=>?_⟩
 have hi0:i=0:=by simp at hi;omega
 subst hi0
 refine ⟨hr,w.heap.size,0,rfl,fun j hj=>?_⟩
 rw [Nat.zero_mul,Nat.zero_add]
 exact (Row.new w T r).cell j hj
theorem wpList_app9 {w:World}{ops:Array Oper}{rest:List Oper}{o:Oper}{a:Act}{Q:Exit→Act→World→Prop}(hgd:o.guard=none)(s x:Operand)
 (ho:o.op=.call { callee:=.builtin .append,args:=#[s,x],argTypes:=#[136,136] })
 (base:Nat) (v:Value) (rows:List (List Value)) (r:List Value) (hs:a.eval s=v) (g:Nat) (hgs:g=w.heap.size) (hx:a.eval x=.slice (some ⟨g,0,none⟩) 1 1) (hown:w.ownsRow base 140 9 v rows.length rows.flatten) (hr:r.length=9) (h1:∀ u∈r,u.oneCell'=true) (hn:rows.length≤1000000000) (hbase:base≤w.heap.size)
 (h:∀ v' w',w'.ownsRow base 140 9 v' (rows.length+1) (rows++[r]).flatten→(w.alloc (.cells r.toArray 140)).grownBy w' v.ownBlock→(v'.ownBlock=v.ownBlock∨v'.ownBlock=some (w.alloc (.cells r.toArray 140)).heap.size)→wpList Tryz.prog ops Q rest (a.put o.dst v') w'):
 wpList Tryz.prog ops Q (o::rest) a (w.alloc (.cells r.toArray 140)):=by
 subst hgs
 obtain ⟨i0,hi0,hz0,hz1,hz2⟩:=info_parts infoRN
 refine wpList_append_own_at _ hgd s x _ ho base _ i0 _ 9 88 Tryz.underlying136 hi0 hz0 hz1 hz2 rfl (by omega) v rows.length _ hs (hown.alloc _) ⟨w.heap.size,0,none⟩ 1 1 [r].flatten hx (by simp [hr]) ((one_rk w _ r hr).news (by omega)) (rk_one (fun q hq=>by rw [List.mem_singleton.1 hq];exact h1)) (by unfold maxLen;omega) (by omega) (by simp only [World.size_alloc];omega) ?_
 intro v' w' k1 k2 _ k4
 exact h v' w' (own_ext k1 rfl (by simp)) k2 k4
/-- The reference's file system that is being made. -/
structure RB (w0 w:World)(G:Nat)(v:Value)(L:List ND)(d:Nat→Option Addr × Nat):Prop where
 row:Row w G 138 [v]
 own:w.ownsRow w0.heap.size 140 9 v L.length (rrs L d).flatten
 data:∀ i,i<L.length→Byt w (d i).1 (L.getD i default).data.length (L.getD i default).data∧(((d i).1=none→(d i).2=0)∧(L.getD i default).data.length≤(d i).2)∧∀ b,(d i).1=some b→w0.heap.size≤b.block∧b.block<w.heap.size∧some b.block≠v.ownBlock∧b.block≠G
 low:w0.heap.size≤G
 below:Below w0.heap.size w0 w
theorem RB.step1 {w0 w w':World}{G:Nat}{v:Value}{L:List ND}{d:Nat→Option Addr × Nat}(h:RB w0 w G v L d)(hb:Below w.heap.size w w'):RB w0 w' G v L d:=
 ⟨h.row.below hb h.row.lt,own_below h.own hb,fun i hi=>by
  obtain ⟨h1,h2,h3⟩:=h.data i hi
  exact ⟨h1.below' hb,h2,fun b e=>by
   obtain ⟨k1,k2,k3⟩:=h3 b e
   exact ⟨k1,Nat.lt_of_lt_of_le k2 hb.size,k3⟩⟩,h.low,bthen h.below hb⟩
theorem RB.rf {w0 w:World}{G:Nat}{v:Value}{L:List ND}{d:Nat→Option Addr × Nat}(h:RB w0 w G v L d)(hf:Fine L)(hL:∃ P,Lay L P)(hK:Kid L):RF w G L d:=
 ⟨hf,hL,hK,by
  obtain ⟨a,c,rfl,h1,_⟩:=own_rk h.own (rrs_nine L d) (by omega)
  exact ⟨a,c,h.row,h1⟩,fun i hi=>⟨(h.data i hi).1,(h.data i hi).2.1⟩⟩
theorem RB.lt {w0 w:World}{G:Nat}{v:Value}{L:List ND}{d:Nat→Option Addr × Nat}(h:RB w0 w G v L d):∀ g,v.ownBlock=some g→w0.heap.size≤g∧g<w.heap.size:=by
 intro g e
 rcases own_block h.own with h1|⟨g',h1,h2,h3⟩
 ·rw [h1] at e;cases e
 ·rw [h1] at e;cases e;exact ⟨h2,h3⟩
def upD (d:Nat→Option Addr × Nat)(n:Nat)(q:Option Addr × Nat):Nat→Option Addr × Nat:=fun i=>if i=n then q else d i
/-- A new node's cells. -/
def rnew (ds:List BL)(j:Nat)(x:EN)(na:Option Addr)(nc:Nat):List Value:=[.int .u8 x.kind,.int .u16 x.mode,.int .u32 x.uid,.int .u32 x.gid,.int .i64 (x.data.length:Nat),.int .i64 (j:Nat),.string (ba (ds.getLastD [])),.slice na x.data.length nc,.string (ba x.to)]
theorem rrs_add {L:List ND}{d:Nat→Option Addr × Nat}{j:Nat}{x:EN}{ds:List BL}{na:Option Addr}{nc:Nat}(hG:GoodD ds):rrs (addN L j (ds.getLastD []) (newN ds j x)) (upD d L.length (na,nc))=rrs L d++[rnew ds j x na nc]:=by
 unfold rrs
 rw [addN_len,List.range_succ,List.map_append]
 congr 1
 ·apply List.map_congr_left
  intro i hi
  have hi':=List.mem_range.1 hi
  obtain ⟨ns,e,_⟩:=addN_same L j (ds.getLastD []) (newN ds j x) hi'
  unfold rcs nmL pr upD
  rw [e,if_neg (by omega)]
 ·simp only [List.map_cons,List.map_nil]
  congr 1
  unfold rcs nmL pr upD rnew
  rw [addN_new,if_pos rfl]
  show [_,_,_,_,_,_,Value.string (ba ((partsF (pathJ ds)).getLastD [])),_,_]=_
  rw [(goodD_chk hG).2.1]
  rfl
theorem RB.step {w0 wr w2 w4:World}{G j nc:Nat}{v v':Value}{L:List ND}{d:Nat→Option Addr × Nat}{x:EN}{ds:List BL}{na:Option Addr}{o:Obj}(h:RB w0 wr G v L d)(hG:GoodD ds)(hb:Below wr.heap.size wr w2)(hby:Byt w2 na x.data.length x.data)(hnil:(na=none→nc=0)∧x.data.length≤nc)(hli:∀ b,na=some b→wr.heap.size≤b.block∧b.block<w2.heap.size)
 (hown:w4.ownsRow w0.heap.size 140 9 v' (L.length+1) (rrs L d++[rnew ds j x na nc]).flatten) (hg:(w2.alloc o).grownBy w4 v.ownBlock) (hat:v'.ownBlock=v.ownBlock∨v'.ownBlock=some (w2.alloc o).heap.size):
 RB w0 (w4.setCell ⟨G,0,none⟩ v') G v' (addN L j (ds.getLastD []) (newN ds j x)) (upD d L.length (na,nc)):=by
 have h2:=h.step1 hb
 have hlt:=h.lt
 have hGl:=h.row.lt
 have hGo:some G≠v.ownBlock:=own_row_neK h.own h.row (by decide)
 have hz:=hb.size
 have hsz:=hg.size
 rw [World.size_alloc] at hsz hat
 have hr4:Row w4 G 138 [v]:=(h2.row.alloc o).grown hg hGo
 have hGo':some G≠v'.ownBlock:=own_row_neK hown hr4 (by decide)
 have keep:∀ b,b<w2.heap.size→b≠G→some b≠v.ownBlock→(w4.setCell ⟨G,0,none⟩ v').heap[b]?=w2.heap[b]?:=fun b h1 h3 h4=>by
  rw [heap_setCell_other _ _ _ _ (by exact h3),hg.block b (by rw [World.size_alloc];omega) h4,heap_alloc_old _ _ h1]
 have hl:=addN_len L j (ds.getLastD []) (newN ds j x)
 refine ⟨hr4.set 0 v',?_,fun i hi=>?_,h.low,?_⟩
 ·rw [hl,rrs_add hG]
  exact own_setOther hown hGo' v'
 ·rw [hl] at hi
  have hs':(w4.setCell ⟨G,0,none⟩ v').heap.size=w4.heap.size:=by simp
  by_cases hil:i=L.length
  ·subst hil
   rw [addN_new]
   unfold upD
   rw [if_pos rfl]
   have hne:∀ b,na=some b→b.block≠G∧some b.block≠v.ownBlock:=fun b e=>by
    have k:=hli b e
    exact ⟨by omega,fun q=>by have:=(hlt _ q.symm).2;omega⟩
   refine ⟨hby.same (fun b e=>keep _ (hli b e).2 (hne b e).1 (hne b e).2),hnil,fun b e=>?_⟩
   have k:=hli b e
   have k0:=h.below.size
   refine ⟨by omega,by rw [hs'];omega,?_,(hne b e).1⟩
   rcases hat with q|q
   ·rw [q];exact (hne b e).2
   ·rw [q];intro e2;have:=Option.some.inj e2;omega
  ·have hi':i<L.length:=by omega
   obtain ⟨ns,e,_⟩:=addN_same L j (ds.getLastD []) (newN ds j x) hi'
   obtain ⟨k1,k2,k3⟩:=h.data i hi'
   rw [e]
   unfold upD
   rw [if_neg hil]
   refine ⟨(k1.below' hb).same (fun b e=>keep _ (by have:=(k3 b e).2.1;omega) (k3 b e).2.2.2 (k3 b e).2.2.1),k2,fun b e=>?_⟩
   obtain ⟨q1,q2,q3,q4⟩:=k3 b e
   refine ⟨q1,by rw [hs'];omega,?_,q4⟩
   rcases hat with q|q
   ·rw [q];exact q3
   ·rw [q];intro e2;have:=Option.some.inj e2;omega
 ·have k0:=h2.below
  have k1:=k0.alloc k0.size o
  exact bset (k1.grown hg (by have:=k0.size;rw [World.size_alloc];omega) (fun g e=>(hlt g e).1)) h.low _
def d0:Nat→Option Addr × Nat:=fun _=>(none,0)
def row0:List Value:=[.int .u8 2,.int .u16 493,.int .u32 0,.int .u32 0,.int .i64 0,.int .i64 0,.string (ba []),.slice none 0 0,.string (ba [])]
theorem rrs0:rrs [root0] d0=[row0]:=by
 have:nmL [root0] 0=[]:=by decide +kernel
 unfold rrs row0
 simp only [List.length_singleton,List.range_one,List.map_cons,List.map_nil,rcs,this]
 rfl
def RNews (w:World)(xs:List EN)(e:Ending)(w':World):Prop:=Below w.heap.size w w'∧
 if 64<xs.length then e=.returned (.tuple #[.pointer none,.int .i64 15,.int .i64 (-1)])
 else if (newE [root0] 0 xs).1=0 then ∃ G v d,e=.returned (.tuple #[.pointer (some ⟨G,0,none⟩),.int .i64 0,.int .i64 0])∧RB w w' G v (newE [root0] 0 xs).2.2 d∧Fine (newE [root0] 0 xs).2.2
 else e=.returned (.tuple #[.pointer none,.int .i64 (newE [root0] 0 xs).1,.int .i64 ((newE [root0] 0 xs).2.1:Nat)])
theorem addE_may {L:List ND}{x:EN}(h:¬ mayR x=0):addE L x=(mayR x,L):=by
 unfold mayR at h ⊢
 cases he:entP x with
 | none=>rw [addE_1 he]
 | some ds=>
  rw [he] at h
  by_cases hb:65536<x.data.length
  ·rw [addE_12 he hb];simp [hb]
  ·simp [hb] at h
theorem may_zero {x:EN}(h:mayR x=0):∃ ds,entP x=some ds∧¬ 65536<x.data.length:=by
 unfold mayR at h
 cases he:entP x with
 | none=>rw [he] at h;cases h
 | some ds=>
  rw [he] at h
  by_cases hb:65536<x.data.length
  ·simp [hb] at h
  ·exact ⟨ds,rfl,hb⟩
theorem atV_none {L:List ND}{ds:List BL}(h:atL L 0 ds=none):atV L ds=-1:=by unfold atV;rw [h]
theorem atV_some {L:List ND}{ds:List BL}{j:Nat}(h:atL L 0 ds=some j):atV L ds=(j:Int):=by unfold atV;rw [h]
set_option maxRecDepth 100000 in
set_option maxHeartbeats 16000000 in
theorem rnew_any (a:Option Addr)(n c:Nat)(xs:List EN)(w:World)(hX:Ents w a n xs)(hn:n≤1000000):
 Calls Tryz.prog 21 #[.slice a n c] w (RNews w xs):=by
 have hxl:xs.length=n:=by have:=hX.rows.hlen;simpa using this
 have HX:=hid hX
 have HXL:=hid hxl
 clear hX
 by_cases hbig:64<n
 ·have d1:decide ((64:Int)<(n:Int))=true:=by simp;omega
  have HG:=hid (show 64<xs.length by omega)
  clear hbig hxl
  go_enter Tryz.func21,Tryz.ntmps21
  go_wp2_with fail
  refine bodyPost_ret (v:=.tuple #[.pointer none,.int .i64 15,.int .i64 (-1)]) (by simp [results,Tryz.f21,go_sem]) rfl ⟨Below.refl _ _,?_⟩
  rw [if_pos HG.out]
 ·have d1:decide ((64:Int)<(n:Int))=false:=by simp;omega
  have HG:=hid (show ¬ 64<xs.length by omega)
  have hn64:n≤64:=by omega
  have hf0:=Row.new w 138 [.slice none 0 0]
  have hb0:=@bal w (.cells #[.slice none 0 0] 138)
  have x0:=hf0.cell 0 (by simp)
  simp only [List.getElem_cons_zero] at x0
  have HF0:=hid hf0
  have HB0:=hid hb0
  have HOW0:=hid (show (w.alloc (.cells #[.slice none 0 0] 138)).ownsRow w.heap.size 140 9 (.slice none 0 0) ([]:List (List Value)).length ([]:List (List Value)).flatten from World.ownsRow_nil _ _ _ _)
  have HGS0:=hid (show w.heap.size+1=(w.alloc (.cells #[.slice none 0 0] 138)).heap.size by simp)
  have HR9:=hid (show row0.length=9 from rfl)
  have HR1:=hid (show ∀ u∈row0,u.oneCell'=true by decide)
  have HL0:=hid (show ([]:List (List Value)).length≤1000000000 by simp)
  have HZ0:=hid hb0.size
  clear hbig hxl hf0 hb0 x0
  go_enter Tryz.func21,Tryz.ntmps21
  go_wp2_with (at_builtin;go_must (refine wpList_app9 rfl _ _ rfl w.heap.size (.slice none 0 0) [] row0 rfl (w.heap.size+1) HGS0.out rfl HOW0.out HR9.out HR1.out HL0.out HZ0.out ?_;intro v4 w4 hown hgrow hat;obtain ⟨va,vc,rfl,_⟩:=own_rk (rows:=[row0]) hown (by intro r hr;rw [List.mem_singleton.1 hr];rfl) (by omega);have hr4:=(HF0.out.alloc (.cells row0.toArray 140)).grown hgrow (by simp [Value.ownBlock]);have g0:=hr4.cell 0 (by simp);have f0:=hr4.frozen 0;have l4:=hr4.lt;have HR4:=hid hr4;have HOWN:=hid hown;have HGR:=hid hgrow;have HAT:=hid hat;clear hown hgrow hat hr4))
  have hown4:=own_below HOWN.out (show Below w4.heap.size w4 w4 from Below.refl _ _)
  have HRB0:=hid (show RB w (w4.setCell ⟨w.heap.size,0,none⟩ (.slice va 1 vc)) w.heap.size (.slice va 1 vc) [root0] d0 from by
   have hne:some w.heap.size≠(Value.slice va 1 vc).ownBlock:=own_row_neK HOWN.out HR4.out (by decide)
   refine ⟨HR4.out.set 0 _,?_,fun i hi=>?_,Nat.le_refl _,?_⟩
   ·rw [rrs0];exact own_setOther HOWN.out hne _
   ·obtain rfl:i=0:=by simp at hi;omega
    exact ⟨Byt.nil _ _,⟨fun _=>rfl,Nat.le_refl 0⟩,fun b e=>by cases e⟩
   ·have h1:=HB0.out.alloc HZ0.out (.cells row0.toArray 140)
    exact bset (h1.grown HGR.out (by have:=h1.size;simp only [World.size_alloc] at this ⊢;omega) (fun g e=>by cases e)) (Nat.le_refl _) _)
  clear hown4 g0 f0 l4
  go_loopw [6] (fun i wr=>∃ (k:Nat) (L:List ND) (v:Value) (d:Nat→Option Addr × Nat),k≤n∧i=.int .i64 k∧newE L k (xs.drop k)=newE [root0] 0 xs∧L.length=k+1∧Fine L∧(∃ P,Lay L P)∧Kid L∧RB w wr w.heap.size v L d) (fun i _=>n-(intOf i).toNat)
  case atStart=>exact ⟨0,[root0],_,d0,Nat.zero_le _,rfl,rfl,rfl,fine0,⟨_,lay0⟩,kid0,HRB0.out⟩
  case round=>
   obtain ⟨k,L,v,d,hk,rfl,hne,hll,hfi,hla,hki,hrb⟩:=hrel
   have HNE:=hid hne
   have HLL:=hid hll
   have HFI:=hid hfi
   have HLA:=hid hla
   have HKI:=hid hki
   have HRB:=hid hrb
   clear hne hll hfi hla hki hrb HRB0 HOWN HGR HAT HR4
   by_cases hlt:k<n
   ·have d2:decide ((k:Int)<(n:Int))=true:=by simp;omega
    have d2n:decide (k<n)=true:=by simp;omega
    have hkx:k<xs.length:=by rw [HXL.out];exact hlt
    obtain ⟨b,o,rfl,hcell⟩:=(HX.out.below HRB.out.below).rows.some_of (by simp;omega)
    have g:=fun j hj=>hcell k (by simpa using hkx) j hj
    have e9:(xs.map EN.cs)[k]'(by simpa using hkx)=xs[k].cs:=by simp
    rw [e9] at g
    have g0:=g 0 (by simp [EN.cs])
    have g1:=g 1 (by simp [EN.cs])
    have g2:=g 2 (by simp [EN.cs])
    have g3:=g 3 (by simp [EN.cs])
    have g4:=g 4 (by simp [EN.cs])
    have g5:=g 5 (by simp [EN.cs])
    have g6:=g 6 (by simp [EN.cs])
    simp only [EN.cs,List.getElem_cons_zero,List.getElem_cons_succ,Nat.add_zero] at g0 g1 g2 g3 g4 g5 g6
    have hblt:=World.block_lt_of_cell? _ _ g0
    dsimp only at hblt
    have HOK:=hid ((HX.out.ok _ (List.getElem_mem hkx)).below HRB.out.below)
    have HDR:=hid (List.drop_eq_getElem_cons hkx)
    generalize xs[k]=x at *
    have HBA:=hid (@bal wr (.cells x.cs.toArray 131))
    have HRX:=hid (Row.new wr 131 x.cs)
    have HOA:=hid (HOK.out.below HBA.out)
    have HMAY:=hid (rmay6_any x _ HOA.out)
    have HPA:=hid HOK.out.path
    have hnx:=HRX.out.seven
    unfold EN.cs at HBA HRX HOA HMAY hnx
    clear hcell g e9
    go_wp2_with fail
    refine (HMAY.out).mono ?_
    rintro e' w1 ⟨rfl,hb⟩
    have HB1:=hid (bthen HBA.out hb)
    have HRX1:=hid (HRX.out.below hb HRX.out.lt)
    have HBB:=hid hb
    clear hb HMAY hnx g0 g1 g2 g3 g4 g5 g6 hblt
    by_cases hm0:mayR x=0
    ·rw [hm0]
     obtain ⟨ds,hen,hsz⟩:=may_zero hm0
     obtain ⟨hds,hent⟩:=entP_is hen
     have HEN:=hid hen
     have HSZ:=hid hsz
     have HGD:=hid (show GoodD ds by rw [hds];exact goodD_of hent.2.2.2.1 hent.2.2.2.2.1)
     have HNE2:=hid (show ds≠[] by rw [hds];exact hent.2.2.2.2.2.1)
     have hdl:ds.length≤201:=by rw [hds];exact parts_count _
     have HTO:=hid (rightK_to hent.1)
     have HDS:=hid hds
     obtain ⟨m,hm⟩:∃ m,ds.length=m+1:=⟨ds.length-1,by have:=List.length_pos_iff.2 HNE2.out;omega⟩
     have HM:=hid hm
     clear hm0 hen hsz hds hent hm
     obtain ⟨c0,c1,c2,c3,c4,c5,c6⟩:=HRX1.out.seven
     have hl0:=HRX1.out.lt
     go_wp2_with fail
     refine (rparts_any (ba x.path) w1 (by rw [ba_size];exact HPA.out)).mono ?_
     rintro e' w2 ⟨pv,rfl,ho,hb⟩
     rw [show (ba x.path).data.toList=x.path from rfl,← HDS.out] at ho
     have HB2:=hid (bthen HB1.out hb)
     have HRX2:=hid (HRX1.out.below hb HRX1.out.lt)
     obtain ⟨pa,pc,rfl,hcel,_,hpc,_,hpb⟩:=own_cel2 ho
     have HC2:=hid hcel
     have HPB:=hid hpb
     have HBB2:=hid (bthen HBB.out hb)
     clear ho hb hcel hpb c0 c1 c2 c3 c4 c5 c6 hl0
     have HRB2:=hid (HRB.out.step1 HB2.out)
     have HRF2:=hid (HRB2.out.rf HFI.out HLA.out HKI.out)
     rw [HM.out] at HC2 hpc ⊢
     have HAT1:=hid (rat_any w.heap.size L d pa (m+1) pc ds w2 HRF2.out HC2.out HM.out (by have:=HM.out;omega))
     have hlk:atL L 0 ds=lookK L (pathJ ds):=by obtain ⟨P,hP⟩:=HLA.out;exact at_look hP HKI.out HGD.out
     have HLK:=hid hlk
     clear hlk
     cases hl1:lookK L (pathJ ds) with
     | some j0=>
      rw [atV_some (HLK.out.trans hl1)] at HAT1
      have HE:=hid (addE_7 HEN.out HSZ.out hl1)
      have HNO:=hid (show newE [root0] 0 xs=(7,k,L) by rw [← HNE.out,HDR.out,newE_no (by rw [HE.out];simp),HE.out])
      clear hl1
      go_wp2_with fail
      refine (HAT1.out).mono ?_
      rintro e' w3 ⟨rfl,rfl⟩
      go_wp2_with fail
      refine bodyPost_ret (v:=.tuple #[.pointer none,.int .i64 7,.int .i64 (k:Int)]) (by simp [results,Tryz.f21,go_sem]) rfl ⟨HRB2.out.below,?_⟩
      rw [if_neg HG.out,HNO.out,if_neg (by simp)]
     | none=>
      rw [atV_none (HLK.out.trans hl1)] at HAT1
      have HL1:=hid hl1
      obtain ⟨dl,nm,hdn⟩:∃ dl nm,ds=dl++[nm]:=by
       rcases ds.eq_nil_or_concat with h|⟨l,q,h⟩
       ·exact absurd h HNE2.out
       ·exact ⟨l,q,by simpa using h⟩
      have hdl2:dl.length=m:=by have:=HM.out;rw [hdn] at this;simpa using this
      have hc3:Cel w2 pa m (strs dl):=by
       have:=HC2.out.prefix (n:=m) (by omega)
       rwa [hdn,strs_app,List.take_left' (by simp [strs,hdl2])] at this
      obtain ⟨pb,po,rfl,hcell⟩:=HC2.out.some_of (by simp [strs];rw [hdn];simp)
      have hnm:w2.cell? ⟨pb,po+m,none⟩=some (.string (ba (ds.getLastD []))):=by
       have:=hcell m (by simp [strs,HM.out])
       rw [this]
       simp only [hdn,strs,List.map_append,List.map_cons,List.map_nil,List.getLastD_concat]
       rw [List.getElem_append_right (by simp [hdl2])]
       simp [hdl2]
      have HAT2:=hid (rat_any w.heap.size L d (some ⟨pb,po,none⟩) m pc dl w2 HRF2.out hc3 hdl2 (by have:=HM.out;omega))
      have hlk2:atL L 0 dl=lookK L (pathJ ds.dropLast):=by
       have hG:GoodD dl:=by have:=HGD.out;rw [hdn] at this;exact goodD_init this
       obtain ⟨P,hP⟩:=HLA.out
       rw [at_look hP HKI.out hG,hdn,List.dropLast_concat]
      have HLK2:=hid hlk2
      have HNM:=hid hnm
      have hsl:=cut_slice pb po pc m (by omega) (by omega)
      have hmb:m≤201:=by have:=HM.out;omega
      clear hl1 hc3 hcell hlk2 hnm hdl2 hdn hdl
      cases hl2:lookK L (pathJ ds.dropLast) with
      | none=>
       rw [atV_none (HLK2.out.trans hl2)] at HAT2
       have HE:=hid (addE_3 HEN.out HSZ.out HL1.out hl2)
       have HNO:=hid (show newE [root0] 0 xs=(3,k,L) by rw [← HNE.out,HDR.out,newE_no (by rw [HE.out];simp),HE.out])
       clear hl2
       go_wp2_with fail
       refine (HAT1.out).mono ?_
       rintro e' w3 ⟨rfl,rfl⟩
       go_wp2_with fail
       refine (HAT2.out).mono ?_
       rintro e' w3 ⟨rfl,rfl⟩
       go_wp2_with fail
       refine bodyPost_ret (v:=.tuple #[.pointer none,.int .i64 3,.int .i64 (k:Int)]) (by simp [results,Tryz.f21,go_sem]) rfl ⟨HRB2.out.below,?_⟩
       rw [if_neg HG.out,HNO.out,if_neg (by simp)]
      | some j=>
       rw [atV_some (HLK2.out.trans hl2)] at HAT2
       have hjl:j<L.length:=lookK_in hl2
       have HJL:=hid hjl
       obtain ⟨rb,ro,rc,y0,hlG,hlb,hat⟩:=HRF2.out.at
       obtain ⟨⟨k0,_⟩,_⟩:=hat j hjl
       have hmost:=HFI.out.most
       have q1:decide ((j:Int)<(L.length:Int))=true:=by simp;omega
       have q1n:decide (j<L.length)=true:=by simp;omega
       clear hat hjl
       by_cases hk2:(L.getD j default).kind=2
       ·rw [hk2] at k0
        have HE:=hid (addE_0 HEN.out HSZ.out HL1.out hl2 hk2)
        have HK2:=hid hk2
        clear hl2 hk2
        go_wp2_with fail
        refine (HAT1.out).mono ?_
        rintro e' w3 ⟨rfl,rfl⟩
        go_wp2_with fail
        refine (HAT2.out).mono ?_
        rintro e' w3 ⟨rfl,rfl⟩
        go_wp2_with fail
        clear k0 y0 hlG hlb hsl
        obtain ⟨nmv,hnmv⟩:∃ q,q=ds.getLastD []:=⟨_,rfl⟩
        rw [← hnmv] at HNM
        have HNMV:=hid hnmv
        clear hnmv
        have hGx:wr.heap.size≠w.heap.size:=by have:=HRB.out.row.lt;omega
        have hox:some wr.heap.size≠v.ownBlock:=fun e=>by have:=(HRB.out.lt _ e.symm).2;omega
        have hwz:wr.heap.size<w1.heap.size:=HRX1.out.lt
        obtain ⟨pg,epb,hpg,_⟩:=HPB.out _ rfl
        have hGp:pb≠w.heap.size:=by have:=HRB.out.row.lt;cases epb;omega
        have hop:some pb≠v.ownBlock:=fun e=>by have:=(HRB.out.lt _ e.symm).2;cases epb;omega
        have hc0:=HRB2.out.row.cell 0 (by simp)
        simp only [List.getElem_cons_zero] at hc0
        obtain ⟨c0,c1,c2,c3,c4,c5,c6⟩:=HRX2.out.seven
        have s0:=(fun (ww:World) (h:StG w2 w.heap.size v.ownBlock v ww)=>h.read c0 hGx hox)
        have s1:=(fun (ww:World) (h:StG w2 w.heap.size v.ownBlock v ww)=>h.read c1 hGx hox)
        have s2:=(fun (ww:World) (h:StG w2 w.heap.size v.ownBlock v ww)=>h.read c2 hGx hox)
        have s3:=(fun (ww:World) (h:StG w2 w.heap.size v.ownBlock v ww)=>h.read c3 hGx hox)
        have s4:=(fun (ww:World) (h:StG w2 w.heap.size v.ownBlock v ww)=>h.read c4 hGx hox)
        have s5:=(fun (ww:World) (h:StG w2 w.heap.size v.ownBlock v ww)=>h.read c5 hGx hox)
        have s6:=(fun (ww:World) (h:StG w2 w.heap.size v.ownBlock v ww)=>h.read c6 hGx hox)
        have sp:=(fun (ww:World) (h:StG w2 w.heap.size v.ownBlock v ww)=>h.read HNM.out hGp hop)
        have sg:=(fun (ww:World) (h:StG w2 w.heap.size v.ownBlock v ww)=>h.cell)
        have hS:StG w2 w.heap.size v.ownBlock v w2.drew:=StG.of (Below.refl _ _).drew hc0
        have HC0:=hid hc0
        clear c0 c1 c2 c3 c4 c5 c6 hc0 hGx hox hwz hpg hGp hop epb
        have hml1:(m:Int)<(m:Int)+1:=by omega
        have hm0':(0:Int)≤(m:Int):=by omega
        have hmw:IntKind.i64.wrap (m:Int)=(m:Int):=IntWalk.i64_in _ ⟨by omega,by omega⟩
        refine region_sk 34 (StG w2 w.heap.size v.ownBlock v) (by kernel_rfl) (fun inv=>?_)
        refine sk_take (i:=0) (v:=?_) (some 78) rfl rfl (by kernel_rfl) (by kernel_rfl) (by decide) (by decide) inv (by kernel_rfl) (by kernel_rfl) (fun _ _ _ h=>h) (Or.inl ⟨by rfl,?_⟩) hS (fun inv=>?_)
        rotate_left
        ·intro ww hSw
         go_simp
         try with_reducible rfl
        simp only [Act.put,List.setIfInBounds_toArray,List.set_cons_zero,List.set_cons_succ]
        refine sk_take (i:=1) (v:=?_) (some 79) rfl rfl (by kernel_rfl) (by kernel_rfl) (by decide) (by decide) inv (by kernel_rfl) (by kernel_rfl) (fun _ _ _ h=>h) (Or.inl ⟨by rfl,?_⟩) hS (fun inv=>?_)
        rotate_left
        ·intro ww hSw
         go_simp
         try with_reducible rfl
        simp only [Act.put,List.setIfInBounds_toArray,List.set_cons_zero,List.set_cons_succ]
        refine sk_take (i:=2) (v:=?_) (some 80) rfl rfl (by kernel_rfl) (by kernel_rfl) (by decide) (by decide) inv (by kernel_rfl) (by kernel_rfl) (fun _ _ _ h=>h) (Or.inl ⟨by rfl,?_⟩) hS (fun inv=>?_)
        rotate_left
        ·intro ww hSw
         go_simp
         try with_reducible rfl
        simp only [Act.put,List.setIfInBounds_toArray,List.set_cons_zero,List.set_cons_succ]
        refine sk_take (i:=3) (v:=?_) (some 81) rfl rfl (by kernel_rfl) (by kernel_rfl) (by decide) (by decide) inv (by kernel_rfl) (by kernel_rfl) (fun _ _ _ h=>h) (Or.inl ⟨by rfl,?_⟩) hS (fun inv=>?_)
        rotate_left
        ·intro ww hSw
         go_simp
         try with_reducible rfl
        simp only [Act.put,List.setIfInBounds_toArray,List.set_cons_zero,List.set_cons_succ]
        refine sk_take (i:=4) (v:=?_) (some 82) rfl rfl (by kernel_rfl) (by kernel_rfl) (by decide) (by decide) inv (by kernel_rfl) (by kernel_rfl) (fun _ _ _ h=>h) (Or.inl ⟨by rfl,?_⟩) hS (fun inv=>?_)
        rotate_left
        ·intro ww hSw
         go_simp
         try with_reducible rfl
        simp only [Act.put,List.setIfInBounds_toArray,List.set_cons_zero,List.set_cons_succ]
        refine sk_take (i:=5) (v:=?_) (some 83) rfl rfl (by kernel_rfl) (by kernel_rfl) (by decide) (by decide) inv (by kernel_rfl) (by kernel_rfl) (fun _ _ _ h=>h) (Or.inl ⟨by rfl,?_⟩) hS (fun inv=>?_)
        rotate_left
        ·intro ww hSw
         go_simp
         try with_reducible rfl
        simp only [Act.put,List.setIfInBounds_toArray,List.set_cons_zero,List.set_cons_succ]
        refine sk_take (i:=6) (v:=?_) (some 84) rfl rfl (by kernel_rfl) (by kernel_rfl) (by decide) (by decide) inv (by kernel_rfl) (by kernel_rfl) (fun _ _ _ h=>h) (Or.inl ⟨by rfl,?_⟩) hS (fun inv=>?_)
        rotate_left
        ·intro ww hSw
         go_simp
         try with_reducible rfl
        simp only [Act.put,List.setIfInBounds_toArray,List.set_cons_zero,List.set_cons_succ]
        refine sk_take (i:=7) (v:=?_) (some 85) rfl rfl (by kernel_rfl) (by kernel_rfl) (by decide) (by decide) inv (by kernel_rfl) (by kernel_rfl) (fun _ _ _ h=>h) (Or.inl ⟨by rfl,?_⟩) hS (fun inv=>?_)
        rotate_left
        ·intro ww hSw
         go_simp
         try with_reducible rfl
        simp only [Act.put,List.setIfInBounds_toArray,List.set_cons_zero,List.set_cons_succ]
        refine sk_take (i:=8) (v:=?_) (some 86) rfl rfl (by kernel_rfl) (by kernel_rfl) (by decide) (by decide) inv (by kernel_rfl) (by kernel_rfl) (fun _ _ _ h=>h) (Or.inl ⟨by rfl,?_⟩) hS (fun inv=>?_)
        rotate_left
        ·intro ww hSw
         go_simp
         try with_reducible rfl
        simp only [Act.put,List.setIfInBounds_toArray,List.set_cons_zero,List.set_cons_succ]
        refine sk_take (i:=9) (v:=?_) (some 87) rfl rfl (by kernel_rfl) (by kernel_rfl) (by decide) (by decide) inv (by kernel_rfl) (by kernel_rfl) (fun _ _ _ h=>h) (Or.inl ⟨by rfl,?_⟩) hS (fun inv=>?_)
        rotate_left
        ·intro ww hSw
         go_simp
         try with_reducible rfl
        simp only [Act.put,List.setIfInBounds_toArray,List.set_cons_zero,List.set_cons_succ]
        refine sk_take (i:=10) (v:=?_) (some 88) rfl rfl (by kernel_rfl) (by kernel_rfl) (by decide) (by decide) inv (by kernel_rfl) (by kernel_rfl) (fun _ _ _ h=>h) (Or.inl ⟨by rfl,?_⟩) hS (fun inv=>?_)
        rotate_left
        ·intro ww hSw
         go_simp
         try with_reducible rfl
        simp only [Act.put,List.setIfInBounds_toArray,List.set_cons_zero,List.set_cons_succ]
        refine sk_take (i:=11) (v:=?_) (some 89) rfl rfl (by kernel_rfl) (by kernel_rfl) (by decide) (by decide) inv (by kernel_rfl) (by kernel_rfl) (fun _ _ _ h=>h) (Or.inl ⟨by rfl,?_⟩) hS (fun inv=>?_)
        rotate_left
        ·intro ww hSw
         go_simp
         try with_reducible rfl
        simp only [Act.put,List.setIfInBounds_toArray,List.set_cons_zero,List.set_cons_succ]
        refine sk_take (i:=12) (v:=?_) (some 90) rfl rfl (by kernel_rfl) (by kernel_rfl) (by decide) (by decide) inv (by kernel_rfl) (by kernel_rfl) (fun _ _ _ h=>h) (Or.inl ⟨by rfl,?_⟩) hS (fun inv=>?_)
        rotate_left
        ·intro ww hSw
         go_simp
         try with_reducible rfl
        simp only [Act.put,List.setIfInBounds_toArray,List.set_cons_zero,List.set_cons_succ]
        refine sk_take (i:=13) (v:=?_) (some 91) rfl rfl (by kernel_rfl) (by kernel_rfl) (by decide) (by decide) inv (by kernel_rfl) (by kernel_rfl) (fun _ _ _ h=>h) (Or.inl ⟨by rfl,?_⟩) hS (fun inv=>?_)
        rotate_left
        ·intro ww hSw
         go_simp
         try with_reducible rfl
        simp only [Act.put,List.setIfInBounds_toArray,List.set_cons_zero,List.set_cons_succ]
        refine sk_take (i:=14) (v:=?_) (some 92) rfl rfl (by kernel_rfl) (by kernel_rfl) (by decide) (by decide) inv (by kernel_rfl) (by kernel_rfl) (fun _ _ _ h=>h) (Or.inl ⟨by rfl,?_⟩) hS (fun inv=>?_)
        rotate_left
        ·intro ww hSw
         go_simp
         try with_reducible rfl
        simp only [Act.put,List.setIfInBounds_toArray,List.set_cons_zero,List.set_cons_succ]
        refine sk_take (i:=15) (v:=?_) (some 93) rfl rfl (by kernel_rfl) (by kernel_rfl) (by decide) (by decide) inv (by kernel_rfl) (by kernel_rfl) (fun _ _ _ h=>h) (Or.inl ⟨by rfl,?_⟩) hS (fun inv=>?_)
        rotate_left
        ·intro ww hSw
         go_simp
         try with_reducible rfl
        simp only [Act.put,List.setIfInBounds_toArray,List.set_cons_zero,List.set_cons_succ]
        refine sk_take (i:=16) (v:=?_) (some 94) rfl rfl (by kernel_rfl) (by kernel_rfl) (by decide) (by decide) inv (by kernel_rfl) (by kernel_rfl) (fun _ _ _ h=>h) (Or.inl ⟨by rfl,?_⟩) hS (fun inv=>?_)
        rotate_left
        ·intro ww hSw
         go_simp
         try with_reducible rfl
        simp only [Act.put,List.setIfInBounds_toArray,List.set_cons_zero,List.set_cons_succ]
        refine sk_take (i:=17) (v:=?_) (some 95) rfl rfl (by kernel_rfl) (by kernel_rfl) (by decide) (by decide) inv (by kernel_rfl) (by kernel_rfl) (fun _ _ _ h=>h) (Or.inl ⟨by rfl,?_⟩) hS (fun inv=>?_)
        rotate_left
        ·intro ww hSw
         go_simp
         try with_reducible rfl
        simp only [Act.put,List.setIfInBounds_toArray,List.set_cons_zero,List.set_cons_succ]
        refine sk_take (i:=18) (v:=?_) (some 96) rfl rfl (by kernel_rfl) (by kernel_rfl) (by decide) (by decide) inv (by kernel_rfl) (by kernel_rfl) (fun _ _ _ h=>h) (Or.inl ⟨by rfl,?_⟩) hS (fun inv=>?_)
        rotate_left
        ·intro ww hSw
         go_simp
         try with_reducible rfl
        simp only [Act.put,List.setIfInBounds_toArray,List.set_cons_zero,List.set_cons_succ]
        refine sk_take (i:=19) (v:=?_) (some 97) rfl rfl (by kernel_rfl) (by kernel_rfl) (by decide) (by decide) inv (by kernel_rfl) (by kernel_rfl) (fun _ _ _ h=>h) (Or.inl ⟨by rfl,?_⟩) hS (fun inv=>?_)
        rotate_left
        ·intro ww hSw
         go_simp
         try with_reducible rfl
        simp only [Act.put,List.setIfInBounds_toArray,List.set_cons_zero,List.set_cons_succ]
        refine sk_take (i:=20) (v:=?_) (some 98) rfl rfl (by kernel_rfl) (by kernel_rfl) (by decide) (by decide) inv (by kernel_rfl) (by kernel_rfl) (fun _ _ _ h=>h) (Or.inl ⟨by rfl,?_⟩) hS (fun inv=>?_)
        rotate_left
        ·intro ww hSw
         go_simp
         try with_reducible rfl
        simp only [Act.put,List.setIfInBounds_toArray,List.set_cons_zero,List.set_cons_succ]
        refine sk_take (i:=21) (v:=?_) (some 99) rfl rfl (by kernel_rfl) (by kernel_rfl) (by decide) (by decide) inv (by kernel_rfl) (by kernel_rfl) (fun _ _ _ h=>h) (Or.inl ⟨by rfl,?_⟩) hS (fun inv=>?_)
        rotate_left
        ·intro ww hSw
         go_simp
         try with_reducible rfl
        simp only [Act.put,List.setIfInBounds_toArray,List.set_cons_zero,List.set_cons_succ]
        refine sk_take (i:=22) (v:=?_) (some 100) rfl rfl (by kernel_rfl) (by kernel_rfl) (by decide) (by decide) inv (by kernel_rfl) (by kernel_rfl) (fun _ _ _ h=>h) (Or.inl ⟨by rfl,?_⟩) hS (fun inv=>?_)
        rotate_left
        ·intro ww hSw
         go_simp
         try with_reducible rfl
        simp only [Act.put,List.setIfInBounds_toArray,List.set_cons_zero,List.set_cons_succ]
        refine sk_take (i:=23) (v:=?_) (some 101) rfl rfl (by kernel_rfl) (by kernel_rfl) (by decide) (by decide) inv (by kernel_rfl) (by kernel_rfl) (fun _ _ _ h=>h) (Or.inl ⟨by rfl,?_⟩) hS (fun inv=>?_)
        rotate_left
        ·intro ww hSw
         go_simp
         try with_reducible rfl
        simp only [Act.put,List.setIfInBounds_toArray,List.set_cons_zero,List.set_cons_succ]
        refine sk_take (i:=24) (v:=?_) (some 102) rfl rfl (by kernel_rfl) (by kernel_rfl) (by decide) (by decide) inv (by kernel_rfl) (by kernel_rfl) (fun _ _ _ h=>h) (Or.inl ⟨by rfl,?_⟩) hS (fun inv=>?_)
        rotate_left
        ·intro ww hSw
         go_simp
         try with_reducible rfl
        simp only [Act.put,List.setIfInBounds_toArray,List.set_cons_zero,List.set_cons_succ]
        refine sk_take (i:=25) (v:=?_) (some 103) rfl rfl (by kernel_rfl) (by kernel_rfl) (by decide) (by decide) inv (by kernel_rfl) (by kernel_rfl) (fun _ _ _ h=>h) (Or.inl ⟨by rfl,?_⟩) hS (fun inv=>?_)
        rotate_left
        ·intro ww hSw
         go_simp
         try with_reducible rfl
        simp only [Act.put,List.setIfInBounds_toArray,List.set_cons_zero,List.set_cons_succ]
        refine sk_take (i:=27) (v:=?_) (some 105) rfl rfl (by kernel_rfl) (by kernel_rfl) (by decide) (by decide) inv (by kernel_rfl) (by kernel_rfl) (fun _ _ _ h=>h) (Or.inl ⟨by rfl,?_⟩) hS (fun inv=>?_)
        rotate_left
        ·intro ww hSw
         go_simp
         try with_reducible rfl
        simp only [Act.put,List.setIfInBounds_toArray,List.set_cons_zero,List.set_cons_succ]
        refine sk_take (i:=28) (v:=?_) (some 106) rfl rfl (by kernel_rfl) (by kernel_rfl) (by decide) (by decide) inv (by kernel_rfl) (by kernel_rfl) (fun _ _ _ h=>h) (Or.inl ⟨by rfl,?_⟩) hS (fun inv=>?_)
        rotate_left
        ·intro ww hSw
         go_simp
         try with_reducible rfl
        simp only [Act.put,List.setIfInBounds_toArray,List.set_cons_zero,List.set_cons_succ]
        clear hmw hml1 hm0'
        have HCB:=hid (fun (wx:World) (hs:Below w2.heap.size w2 wx)=>cpb_cap x.a x.data.length x.c x.data wx ((HOA.out.byt.below' HBB2.out).below' hs) (by have:=HOA.out.data;omega))
        obtain ⟨i0,hi0,hz0,hz1,hz2⟩:=info_parts infoRN
        refine sk_one (i:=26) (by kernel_rfl) rfl inv (fun K hK=>?_)
        rw [if_pos (by rfl)]
        go_simp
        refine (HCB.out _ (Below.refl _ _).drew).mono ?_
        rintro e' w5 ⟨na,nc,rfl,hby,hnil,hli,hb⟩
        have hb5:Below w2.heap.size w2 w5:=bdl hb
        have HB5:=hid hb5
        have HBY:=hid hby
        have HNIL:=hid hnil
        have HLI:=hid (show ∀ b,na=some b→w2.heap.size≤b.block∧b.block<w5.heap.size from hli)
        have hS:StG w2 w.heap.size v.ownBlock v w5:=StG.of hb5 HC0.out
        clear hby hnil hli hb hb5
        refine hK.out _ _ (fun _=>hS) (fun inv=>?_)
        have inv:=inv (by decide)
        clear hK K
        try simp only [Act.put,List.setIfInBounds_toArray,List.set_cons_zero,List.set_cons_succ]
        refine sk_take (i:=29) (v:=?_) (some 107) rfl rfl (by kernel_rfl) (by kernel_rfl) (by decide) (by decide) inv (by kernel_rfl) (by kernel_rfl) (fun _ _ _ h=>h) (Or.inl ⟨by rfl,?_⟩) hS (fun inv=>?_)
        rotate_left
        ·intro ww hSw
         go_simp
         try with_reducible rfl
        simp only [Act.put,List.setIfInBounds_toArray,List.set_cons_zero,List.set_cons_succ]
        refine sk_one (i:=30) (by kernel_rfl) rfl inv (fun K hK=>?_)
        rw [if_pos (by rfl)]
        go_simp
        have hS:StG w2 w.heap.size v.ownBlock v (w5.alloc (.cells [Value.int .u8 x.kind,.int .u16 x.mode,.int .u32 x.uid,.int .u32 x.gid,.int .i64 (x.data.length:Nat),.int .i64 (j:Nat),.string (ba nmv),.slice na x.data.length nc,.string (ba x.to)].toArray 140)):=hS.step (bal _)
        have HRB5:=hid (HRB2.out.step1 HB5.out)
        have HOW5:=hid (HRB5.out.own.alloc (.cells [Value.int .u8 x.kind,.int .u16 x.mode,.int .u32 x.uid,.int .u32 x.gid,.int .i64 (x.data.length:Nat),.int .i64 (j:Nat),.string (ba nmv),.slice na x.data.length nc,.string (ba x.to)].toArray 140))
        have HL5:=hid (show [Value.int .u8 x.kind,.int .u16 x.mode,.int .u32 x.uid,.int .u32 x.gid,.int .i64 (x.data.length:Nat),.int .i64 (j:Nat),.string (ba nmv),.slice na x.data.length nc,.string (ba x.to)].length=1*9 from rfl)
        have HN5:=hid (show ∀ q u,[Value.int .u8 x.kind,.int .u16 x.mode,.int .u32 x.uid,.int .u32 x.gid,.int .i64 (x.data.length:Nat),.int .i64 (j:Nat),.string (ba nmv),.slice na x.data.length nc,.string (ba x.to)][q]?=some u→(w5.alloc (.cells [Value.int .u8 x.kind,.int .u16 x.mode,.int .u32 x.uid,.int .u32 x.gid,.int .i64 (x.data.length:Nat),.int .i64 (j:Nat),.string (ba nmv),.slice na x.data.length nc,.string (ba x.to)].toArray 140)).cell? ((⟨w5.heap.size,0,none⟩:Addr).add q)=some u by
         have:=(one_rk w5 140 [Value.int .u8 x.kind,.int .u16 x.mode,.int .u32 x.uid,.int .u32 x.gid,.int .i64 (x.data.length:Nat),.int .i64 (j:Nat),.string (ba nmv),.slice na x.data.length nc,.string (ba x.to)] (k:=9) rfl).news (by omega)
         simpa using this)
        have HO5:=hid (show ∀ u∈[Value.int .u8 x.kind,.int .u16 x.mode,.int .u32 x.uid,.int .u32 x.gid,.int .i64 (x.data.length:Nat),.int .i64 (j:Nat),.string (ba nmv),.slice na x.data.length nc,.string (ba x.to)],u.oneCell'=true by
         intro u hu
         simp only [List.mem_cons,List.not_mem_nil,or_false] at hu
         rcases hu with rfl|rfl|rfl|rfl|rfl|rfl|rfl|rfl|rfl <;> rfl)
        have HM5:=hid (show L.length+1≤maxLen by unfold maxLen;omega)
        have HM6:=hid (show (L.length+1)*88≤140737488355328 by omega)
        have HZ5:=hid (show w.heap.size≤(w5.alloc (.cells [Value.int .u8 x.kind,.int .u16 x.mode,.int .u32 x.uid,.int .u32 x.gid,.int .i64 (x.data.length:Nat),.int .i64 (j:Nat),.string (ba nmv),.slice na x.data.length nc,.string (ba x.to)].toArray 140)).heap.size by have:=HRB5.out.below.size;rw [World.size_alloc];omega)
        refine hK.out _ _ (fun _=>hS) (fun inv=>?_)
        have inv:=inv (by decide)
        clear hK K
        try simp only [Act.put,List.setIfInBounds_toArray,List.set_cons_zero,List.set_cons_succ]
        refine sk_one (i:=31) (by kernel_rfl) rfl inv (fun K hK=>?_)
        refine step_append_lies _ (by rfl) _ _ 136 (by rfl) w.heap.size 140 i0 _ 9 88 Tryz.underlying136 hi0 hz0 hz1 hz2 rfl (by decide) v L.length (rrs L d).flatten (by rfl) HOW5.out ⟨w5.heap.size,0,none⟩ 1 1 [Value.int .u8 x.kind,.int .u16 x.mode,.int .u32 x.uid,.int .u32 x.gid,.int .i64 (x.data.length:Nat),.int .i64 (j:Nat),.string (ba nmv),.slice na x.data.length nc,.string (ba x.to)] (by rfl) HL5.out HN5.out HO5.out (by decide) HM5.out HM6.out HZ5.out _ rfl ?_
        intro gg cap w7 hown hgrow hat hlt7
        have hGo:some w.heap.size≠v.ownBlock:=own_row_neK HRB5.out.own HRB5.out.row (by decide)
        have hr7:=(HRB5.out.row.alloc (.cells [Value.int .u8 x.kind,.int .u16 x.mode,.int .u32 x.uid,.int .u32 x.gid,.int .i64 (x.data.length:Nat),.int .i64 (j:Nat),.string (ba nmv),.slice na x.data.length nc,.string (ba x.to)].toArray 140)).grown hgrow hGo
        have g7:=hr7.cell 0 (by simp)
        simp only [List.getElem_cons_zero] at g7
        have f7:=hr7.frozen 0
        have l7:=hr7.lt
        have hS:StG w2 w.heap.size v.ownBlock v w7:=⟨Nat.le_trans hS.size hgrow.size,fun b h1 h2 h3=>by rw [hgrow.block b (Nat.lt_of_lt_of_le h1 hS.size) h3,hS.keep b h1 h2 h3],g7⟩
        have HSTEP:=hid (RB.step (j:=j) (v':=.slice (some ⟨gg,0,none⟩) (L.length+1) cap) HRB2.out HGD.out HB5.out HBY.out HNIL.out HLI.out (own_ext hown rfl (by rw [show rnew ds j x na nc=[Value.int .u8 x.kind,.int .u16 x.mode,.int .u32 x.uid,.int .u32 x.gid,.int .i64 (x.data.length:Nat),.int .i64 (j:Nat),.string (ba nmv),.slice na x.data.length nc,.string (ba x.to)] by unfold rnew;rw [← HNMV.out]];simp)) hgrow (by
         rcases hat with h|h
         ·exact .inl h.symm
         ·right;rw [h];rfl))
        refine hK.out _ _ (fun _=>hS) (fun inv=>?_)
        have inv:=inv (by decide)
        clear hK K hown hgrow hat
        try simp only [Act.put,List.setIfInBounds_toArray]
        refine sk_take (i:=32) (v:=?_) (some 110) rfl rfl (by kernel_rfl) (by kernel_rfl) (by decide) (by decide) inv (by kernel_rfl) (by kernel_rfl) (fun _ _ _ h=>h) (Or.inl ⟨by rfl,?_⟩) hS (fun inv=>?_)
        rotate_left
        ·intro ww hSw
         go_simp
         try with_reducible rfl
        simp only [Act.put]
        refine sk_take (i:=33) (v:=?_) (some 111) rfl rfl (by kernel_rfl) (by kernel_rfl) (by decide) (by decide) inv (by kernel_rfl) (by kernel_rfl) (fun _ _ _ h=>h) (Or.inl ⟨by rfl,?_⟩) hS (fun inv=>?_)
        rotate_left
        ·intro ww hSw
         go_simp
         try with_reducible rfl
        simp only [Act.put]
        refine sk_one (i:=34) (by kernel_rfl) rfl inv (fun K hK=>?_)
        rw [if_pos (by rfl)]
        go_simp
        refine hK.out _ _ (fun h=>absurd h (by decide)) (fun _=>?_)
        clear hK K
        refine sk_done (by kernel_rfl) ?_ _
        clear s0 s1 s2 s3 s4 s5 s6 sp sg hS inv g7 f7 l7 hlt7 hGo hr7
        have HLN:=hid (addN_len L j (ds.getLastD []) (newN ds j x))
        have HNX:=hid (show newE (addN L j (ds.getLastD []) (newN ds j x)) (k+1) (xs.drop (k+1))=newE [root0] 0 xs by
         have h9:=newE_go (L:=L) (i:=k) (x:=x) (xs:=xs.drop (k+1)) (by rw [HE.out])
         rw [HE.out] at h9
         rw [← h9,← HDR.out];exact HNE.out)
        have HFX:=hid (show Fine (addN L j (ds.getLastD []) (newN ds j x)) from Fine.add HFI.out HJL.out HK2.out (by have:=HLL.out;omega) rfl rfl ⟨by have:=HSZ.out;show x.data.length≤_;omega,rfl⟩ HOA.out.mode (by
         show (pathJ ds).length≤1000000
         have:=HGD.out.len
         omega) HTO.out)
        have HLX:=hid (show ∃ P,Lay (addN L j (ds.getLastD []) (newN ds j x)) P by
         obtain ⟨P,hP⟩:=HLA.out
         obtain ⟨P',h1,_⟩:=lay_add (x:=x) hP (by rw [HE.out])
         rw [HE.out] at h1
         exact ⟨P',h1⟩)
        have HKX:=hid (show Kid (addN L j (ds.getLastD []) (newN ds j x)) by
         obtain ⟨P,hP⟩:=HLA.out
         have h1:=kid_add (x:=x) hP HKI.out (by rw [HE.out])
         rwa [HE.out] at h1)
        go_wp2_with fail
        go_roundw
        case rel=>exact ⟨k+1,_,_,_,by omega,by go_num,HNX.out,by rw [HLN.out,HLL.out],HFX.out,HLX.out,HKX.out,HSTEP.out⟩
        case measure=>simp [intOf];omega
       ·have dk:((L.getD j default).kind != 2)=true:=by simpa using hk2
        have HE:=hid (addE_8 HEN.out HSZ.out HL1.out hl2 hk2)
        have HNO:=hid (show newE [root0] 0 xs=(8,k,L) by rw [← HNE.out,HDR.out,newE_no (by rw [HE.out];simp),HE.out])
        clear hl2 hk2
        generalize (L.getD j default).kind=kd at *
        go_wp2_with fail
        refine (HAT1.out).mono ?_
        rintro e' w3 ⟨rfl,rfl⟩
        go_wp2_with fail
        refine (HAT2.out).mono ?_
        rintro e' w3 ⟨rfl,rfl⟩
        go_wp2_with fail
        refine bodyPost_ret (v:=.tuple #[.pointer none,.int .i64 8,.int .i64 (k:Int)]) (by simp [results,Tryz.f21,go_sem]) rfl ⟨HRB2.out.below,?_⟩
        rw [if_neg HG.out,HNO.out,if_neg (by simp)]
    ·have HE:=hid (addE_may (L:=L) hm0)
     have HNO:=hid (show newE [root0] 0 xs=(mayR x,k,L) by rw [← HNE.out,HDR.out,newE_no (by rw [HE.out];exact hm0),HE.out])
     have HM0:=hid hm0
     have dm:(mayR x != 0)=true:=by simpa using hm0
     clear hm0
     generalize mayR x=er at *
     go_wp2_with fail
     refine bodyPost_ret (v:=.tuple #[.pointer none,.int .i64 er,.int .i64 (k:Int)]) (by simp [results,Tryz.f21,go_sem]) rfl ⟨(HRB.out.step1 HB1.out).below,?_⟩
     rw [if_neg HG.out,HNO.out,if_neg HM0.out]
   ·have d2:decide ((k:Int)<(n:Int))=false:=by simp;omega
    have d2n:decide (k<n)=false:=by simp;omega
    have HFIN:=hid (show newE [root0] 0 xs=(0,0,L) by rw [← HNE.out,List.drop_eq_nil_of_le (by rw [HXL.out];omega),newE])
    clear hlt hk
    go_wp2_with fail
    refine bodyPost_ret (v:=.tuple #[.pointer (some ⟨w.heap.size,0,none⟩),.int .i64 0,.int .i64 0]) (by simp [results,Tryz.f21,go_sem]) rfl ⟨HRB.out.below,?_⟩
    rw [if_neg HG.out,HFIN.out,if_pos rfl]
    exact ⟨w.heap.size,v,d,rfl,HRB.out,HFI.out⟩
open Go.ChangeShapes Go.WideShapes Go.ChangeAt
attribute [local go_sem] Oper.semAt_some
theorem byt_cel {w:World}{a:Option Addr}{n:Nat}{l:BL}(h:Byt w a n l):Cel w a n (l.map B8):=
 ⟨by rw [List.length_map];exact h.hlen,fun i hi=>by
  obtain ⟨b,o,e,hc⟩:=h.cell i (by simpa using hi)
  exact ⟨b,o,e,by rw [hc];simp [B8]⟩⟩
theorem cel_byt {w:World}{a:Option Addr}{n:Nat}{l:BL}(h:Cel w a n (l.map B8)):Byt w a n l:=
 ⟨by have:=h.hlen;rwa [List.length_map] at this,fun i hi=>by
  obtain ⟨b,o,e,hc⟩:=h.cell i (by simpa using hi)
  exact ⟨b,o,e,by rw [hc];simp [B8]⟩⟩
theorem newB_own {w w':World}{v:Value}{l:BL}{B:Nat}(h:NewB w w' v l)(hl:l.length≤1000000)(hB:B≤w.heap.size):w'.ownsRow B 5 1 v l.length (l.map B8):=by
 rcases h with ⟨rfl,rfl⟩|⟨_,rfl,hr⟩
 ·exact own_nilB _ _
 ·exact ⟨by simp,.inr ⟨w.heap.size,l.length,(l.map B8).toArray,rfl,hB,hr.heap,Nat.le_refl _,by unfold maxLen;omega,by simp,List.take_of_length_le (by simp)⟩⟩
theorem rdB_past {l:BL}{off n:Int}(h:(l.length:Int)≤off):rdB l off n=[]:=by
 unfold rdB
 rw [List.drop_eq_nil_of_le (by omega),List.take_nil]
set_option maxRecDepth 100000 in
set_option maxHeartbeats 4000000 in
theorem rread_any (G:Nat)(L:List ND)(d:Nat→Option Addr × Nat)(ino off n:Int)(w:World)(h:RF w G L d):
 Calls Tryz.prog 92 #[.pointer (some ⟨G,0,none⟩),.int .i64 ino,.int .i64 off,.int .i64 n] w (RdPost w (readL L ino off n)):=by
 have HBA:=hid (fun (w1:World) (hb:Below w.heap.size w w1) (o:Obj)=>hb.alloc hb.size o)
 by_cases hin:0≤ino∧ino<(L.length:Int)
 ·obtain ⟨i,rfl⟩:=Int.eq_ofNat_of_zero_le hin.1
  have hi:i<L.length:=by omega
  have HM:=hid (rmeta_in G L d i w h hi)
  have hmost:=h.fine.most
  have hdat:=(h.fine.data i hi).1
  obtain ⟨hB,hBn,hBc⟩:=h.data i hi
  obtain ⟨b,o,c,x0,hG,hb,hat⟩:=h.at
  obtain ⟨⟨g0,g1,g2,g3,g4⟩,g5,g6,g7,g8⟩:=hat i hi
  have HX0:=hid x0
  have HG7:=hid g7
  have HBY:=hid hB
  clear hat g0 g1 g2 g3 g4 g5 g6 g8 g7 x0 hB h
  by_cases h2:(L.getD i default).kind=2
  ·rw [readL_dir hi h2]
   generalize L.getD i default=x at *
   have d2:(x.kind==2)=true:=by simp [h2]
   go_enter Tryz.func92,Tryz.ntmps92
   go_wp2_with fail
   refine (HM.out).mono ?_
   rintro e' w1 ⟨rfl,hb1⟩
   have HB1:=hid (HBA.out w1 hb1)
   unfold metaV
   go_wp2_with fail
   go_ret2
   exact ⟨_,rfl,own_nilB _ _,HB1.out _⟩
  ·have d2:((L.getD i default).kind==2)=false:=beq_eq_false_iff_ne.2 h2
   by_cases h4:(L.getD i default).kind=3∨off<0∨n<0
   ·rw [readL_bad hi h2 h4]
    generalize L.getD i default=x at *
    by_cases h3:x.kind=3
    ·have d3:(x.kind==3)=true:=by simp [h3]
     clear h2 h4
     go_enter Tryz.func92,Tryz.ntmps92
     go_wp2_with fail
     refine (HM.out).mono ?_
     rintro e' w1 ⟨rfl,hb1⟩
     have HB1:=hid (HBA.out w1 hb1)
     unfold metaV
     go_wp2_with fail
     go_ret2
     exact ⟨_,rfl,own_nilB _ _,HB1.out _⟩
    ·have d3:(x.kind==3)=false:=by simp [h3]
     by_cases h5:off<0
     ·have d5:decide (off<0)=true:=by simpa using h5
      clear h2 h4 h3
      go_enter Tryz.func92,Tryz.ntmps92
      go_wp2_with fail
      refine (HM.out).mono ?_
      rintro e' w1 ⟨rfl,hb1⟩
      have HB1:=hid (HBA.out w1 hb1)
      unfold metaV
      go_wp2_with fail
      go_ret2
      exact ⟨_,rfl,own_nilB _ _,HB1.out _⟩
     ·have d5:decide (off<0)=false:=by simpa using h5
      have d6:decide (n<0)=true:=by simp;omega
      clear h2 h4 h3
      go_enter Tryz.func92,Tryz.ntmps92
      go_wp2_with fail
      refine (HM.out).mono ?_
      rintro e' w1 ⟨rfl,hb1⟩
      have HB1:=hid (HBA.out w1 hb1)
      unfold metaV
      go_wp2_with fail
      go_ret2
      exact ⟨_,rfl,own_nilB _ _,HB1.out _⟩
   ·rw [readL_in hi h2 h4]
    generalize L.getD i default=x at *
    have d3:(x.kind==3)=false:=by simp;omega
    have d5:decide (off<0)=false:=by simp;omega
    have d6:decide (n<0)=false:=by simp;omega
    have d1:decide ((i:Int)<(L.length:Int))=true:=by simp;omega
    have d1n:decide (i<L.length)=true:=by simp;omega
    obtain ⟨f,rfl⟩:=Int.eq_ofNat_of_zero_le (show 0≤off by omega)
    obtain ⟨m,rfl⟩:=Int.eq_ofNat_of_zero_le (show 0≤n by omega)
    clear h2 h4
    generalize d i=dq at *
    obtain ⟨dp,dc⟩:=dq
    simp only at HG7 HBY hBn hBc
    by_cases hf:x.data.length≤f
    ·have d7:decide ((x.data.length:Int)≤(f:Int))=true:=by simp;omega
     have d7n:decide (x.data.length≤f)=true:=by simp;omega
     rw [rdB_past (by omega)]
     go_enter Tryz.func92,Tryz.ntmps92
     go_wp2_with fail
     refine (HM.out).mono ?_
     rintro e' w1 ⟨rfl,hb1⟩
     have HB1:=hid (HBA.out w1 hb1)
     have x0:=keepC hb1 HX0.out
     have g7:=keepC hb1 HG7.out
     have l0:=World.block_lt_of_cell? _ _ x0
     have l7:=World.block_lt_of_cell? _ _ g7
     dsimp only at l0 l7
     unfold metaV
     go_wp2_with fail
     go_ret2
     exact ⟨_,rfl,own_nilB _ _,HB1.out _⟩
    ·have d7:decide ((x.data.length:Int)≤(f:Int))=false:=by simp;omega
     have d7n:decide (x.data.length≤f)=false:=by simp;omega
     obtain ⟨a2,hs1,ha2,hcel2⟩:=from_slice dp x.data.length dc f (f:Int) rfl (by omega) hBc
     have HCE:=hid (fun (wx:World) (hc:Byt wx dp x.data.length x.data)=>hcel2 wx _ (byt_cel hc))
     clear hcel2 ha2
     by_cases hm:m<x.data.length-f
     ·have d8:decide ((m:Int)<((x.data.length-f:Nat):Int))=true:=by simp;omega
      have d8n:decide (m<x.data.length-f)=true:=by simp;omega
      have hs2:=to_slice a2 (x.data.length-f) (dc-f) m (m:Int) rfl (by omega) (by omega)
      have HCP:=hid (fun (wx:World) (hc:Byt wx dp x.data.length x.data)=>show Calls Tryz.prog 72 #[.slice a2 m (dc-f)] wx (fun e w'=>∃ v,e=.returned v∧NewB wx w' v (rdB x.data f m)∧Below wx.heap.size wx w') from by
       have h9:=(HCE.out wx hc).prefix (n:=m) (by omega)
       rw [← List.map_drop,← List.map_take] at h9
       exact cpb_any a2 m (dc-f) _ wx (cel_byt h9) (by omega))
      have HLN:=hid (show (rdB x.data f m).length≤1000000 by unfold rdB;simp;omega)
      clear HCE
      generalize rdB x.data f m=R at *
      generalize x.data.length-f=Lf at *
      go_enter Tryz.func92,Tryz.ntmps92
      go_wp2_with fail
      refine (HM.out).mono ?_
      rintro e' w1 ⟨rfl,hb1⟩
      have HB1:=hid (HBA.out w1 hb1)
      have HY1:=hid (fun (ob:Obj)=>HBY.out.below' (show Below w.heap.size w (w1.alloc ob) from HB1.out ob))
      have x0:=keepC hb1 HX0.out
      have g7:=keepC hb1 HG7.out
      have l0:=World.block_lt_of_cell? _ _ x0
      have l7:=World.block_lt_of_cell? _ _ g7
      dsimp only at l0 l7
      unfold metaV
      go_wp2_with fail
      refine (HCP.out _ (HY1.out _)).mono ?_
      rintro e' w2 ⟨v,rfl,hv,hb2⟩
      have HO:=hid (newB_own hv HLN.out (show w.heap.size≤_ from (HB1.out _).size))
      have HB2:=hid (bthen (HB1.out _) hb2)
      clear hv hb2
      go_wp2_with fail
      go_ret2
      exact ⟨_,rfl,HO.out,HB2.out⟩
     ·have d8:decide ((m:Int)<((x.data.length-f:Nat):Int))=false:=by simp;omega
      have d8n:decide (m<x.data.length-f)=false:=by simp;omega
      have HCP:=hid (fun (wx:World) (hc:Byt wx dp x.data.length x.data)=>show Calls Tryz.prog 72 #[.slice a2 (x.data.length-f) (dc-f)] wx (fun e w'=>∃ v,e=.returned v∧NewB wx w' v (rdB x.data f m)∧Below wx.heap.size wx w') from by
       have h9:=HCE.out wx hc
       rw [← List.map_drop] at h9
       have e9:rdB x.data f m=x.data.drop f:=by unfold rdB;rw [Int.toNat_natCast,Int.toNat_natCast,List.take_of_length_le (by simp;omega)]
       rw [e9]
       exact cpb_any a2 _ (dc-f) _ wx (cel_byt h9) (by omega))
      have HLN:=hid (show (rdB x.data f m).length≤1000000 by unfold rdB;simp;omega)
      clear HCE
      generalize rdB x.data f m=R at *
      generalize x.data.length-f=Lf at *
      go_enter Tryz.func92,Tryz.ntmps92
      go_wp2_with fail
      refine (HM.out).mono ?_
      rintro e' w1 ⟨rfl,hb1⟩
      have HB1:=hid (HBA.out w1 hb1)
      have HY1:=hid (fun (ob:Obj)=>HBY.out.below' (show Below w.heap.size w (w1.alloc ob) from HB1.out ob))
      have x0:=keepC hb1 HX0.out
      have g7:=keepC hb1 HG7.out
      have l0:=World.block_lt_of_cell? _ _ x0
      have l7:=World.block_lt_of_cell? _ _ g7
      dsimp only at l0 l7
      unfold metaV
      go_wp2_with fail
      refine (HCP.out _ (HY1.out _)).mono ?_
      rintro e' w2 ⟨v,rfl,hv,hb2⟩
      have HO:=hid (newB_own hv HLN.out (show w.heap.size≤_ from (HB1.out _).size))
      have HB2:=hid (bthen (HB1.out _) hb2)
      clear hv hb2
      go_wp2_with fail
      go_ret2
      exact ⟨_,rfl,HO.out,HB2.out⟩
 ·rw [readL_out hin]
  have HM:=hid (rmeta_out G L d ino w h hin)
  clear h
  go_enter Tryz.func92,Tryz.ntmps92
  go_wp2_with fail
  refine (HM.out).mono ?_
  rintro e' w1 ⟨rfl,hb1⟩
  have HB1:=hid (HBA.out w1 hb1)
  go_wp2_with fail
  go_ret2
  exact ⟨_,rfl,own_nilB _ _,HB1.out _⟩
end Go.Proofs.YtdjpjfdeeelijaaGreatDoor
