/- All blocks but those of a set stand. No program is named. The cache's map: keyed by places, pages of files. -/
import Derived.Test.YtdjpjfdeeelijaaGreatDoorKJ
import Derived.Test.YtdjpjfdeeelijaaGreatDoorKB1
import Derived.Maps.OwnSet
import Derived.Maps.RangeWalk
import Derived.DeepKeys4
namespace Go.Proofs.YtdjpjfdeeelijaaGreatDoor
open Go.RowKit Go.Sort
/-- All blocks but those that S names stand. -/
structure EX (S:Nat→Prop)(w w':World):Prop where
 os:w'.os=w.os
 tape:w'.tape=w.tape
 output:w'.output=w.output
 size:w.heap.size≤w'.heap.size
 block:∀ k,k<w.heap.size→¬ S k→w'.heap[k]?=w.heap[k]?
section
variable {w w' w2:World}{S T:Nat→Prop}
theorem EX.refl (w:World):EX S w w:=⟨rfl,rfl,rfl,Nat.le_refl _,fun _ _ _=>rfl⟩
theorem EX.trans (h:EX S w w')(k:EX S w' w2):EX S w w2:=
 ⟨k.os.trans h.os,k.tape.trans h.tape,k.output.trans h.output,Nat.le_trans h.size k.size,fun j hj h1=>(k.block j (Nat.lt_of_lt_of_le hj h.size) h1).trans (h.block j hj h1)⟩
theorem EX.mono (h:EX S w w')(hS:∀ k,k<w.heap.size→S k→T k):EX T w w':=⟨h.os,h.tape,h.output,h.size,fun k hk hn=>h.block k hk (fun e=>hn (hS k hk e))⟩
theorem EX.of_below (h:Below w.heap.size w w'):EX S w w':=⟨h.os,h.tape,h.output,h.size,fun k hk _=>h.block k hk⟩
theorem EX.of_ex {a b:Nat}(h:Ex w w' a b)(ha:S a)(hb:S b):EX S w w':=⟨h.os,h.tape,h.output,h.size,fun k hk hn=>h.block k hk (fun e=>hn (e▸ha)) (fun e=>hn (e▸hb))⟩
theorem EX.of_grown {row:Option Nat}(h:w.grownBy w' row)(hr:∀ k,row=some k→k<w.heap.size→S k):EX S w w':=⟨h.os,h.tape,h.output,h.size,fun k hk hn=>h.block k hk (fun e=>hn (hr k e.symm hk))⟩
theorem EX.below {B:Nat}{w0:World}(h:EX S w w')(hb:Below B w0 w)(hS:∀ k,S k→B≤k)(hB:B≤w.heap.size):Below B w0 w':=
 hb.trans ⟨h.os,h.tape,h.output,h.size,fun k hk=>h.block k (by omega) (fun e=>by have:=hS k e;omega)⟩
theorem EX.drew (h:EX S w w'):EX S w w'.drew:=h.trans ⟨rfl,rfl,rfl,Nat.le_refl _,fun _ _ _=>rfl⟩
theorem EX.alloc (h:EX S w w')(o:Obj):EX S w (w'.alloc o):=h.trans (EX.of_below (bal o))
theorem EX.set (h:EX S w w'){g:Nat}(hg:S g∨w.heap.size≤g)(o:Nat)(u:Value):EX S w (w'.setCell ⟨g,o,none⟩ u):=
 ⟨h.os,h.tape,h.output,by simpa using h.size,fun k hk hn=>by
  rw [heap_setCell_other w' _ k u (by rintro rfl;rcases hg with e|e;(· exact hn e);(· omega))]
  exact h.block k hk hn⟩
theorem EX.row {g:Nat}{E:TypeId}{cs:List Value}(h:EX S w w')(hr:Row w g E cs)(h1:¬ S g):Row w' g E cs:=⟨by rw [h.block g hr.lt h1];exact hr.heap⟩
theorem EX.cell {x:Addr}{v:Value}(h:EX S w w')(hc:w.cell? x=some v)(h1:¬ S x.block):w'.cell? x=some v:=by
 have hl:=World.block_lt_of_cell? w x hc
 unfold World.cell? at hc ⊢
 rw [h.block _ hl h1]
 exact hc
theorem EX.own {base E size n:Nat}{v:Value}{xs:List Value}(h:EX S w w')(ho:w.ownsRow base E size v n xs)(h1:∀ g,v.ownBlock=some g→¬ S g):w'.ownsRow base E size v n xs:=by
 refine ⟨ho.1,?_⟩
 rcases ho.2 with hn|⟨g,cap,cur,rfl,hb,hg,r⟩
 ·exact .inl hn
 ·exact .inr ⟨g,cap,cur,rfl,hb,by rw [h.block g (Array.getElem?_eq_some_iff.1 hg).1 (h1 g rfl)];exact hg,r⟩
end
open Go.WideMaps Go.Maps Go.WideShapes Go.WideElems Go.MapKept Go.ChangeMaps
/-- A number of 64 bits. -/
def I64 (x:Int):Prop:=-9223372036854775808≤x∧x≤9223372036854775807
def plK (i p:Int):Value:=.agg #[.int .i64 i,.int .i64 p]
def plL (i p:Int):Lit:=.string (keyBytes [.int .i64 i,.int .i64 p])
theorem placeLaid:laidOutB Tryz.prog=true:=by kernel_rfl
theorem keyedPl:Keyed Tryz.prog 158:=Keyed.of_law (deep_law_laid placeLaid (m:=3) (by omega) (of_decide_eq_true (by kernel_rfl)) (by kernel_rfl) (by kernel_rfl))
theorem wf_i64 {x:Int}(h:I64 x):(Lit.int .i64 x).wf=true:=by unfold I64 at h;simp [Lit.wf,IntKind.min,IntKind.max,IntKind.signed,IntKind.bits];omega
theorem key_pl {i p:Int}(hi:I64 i)(hp:I64 p):keyOf Tryz.prog 158 (plK i p)=some (plL i p):=by
 have h1:Tryz.prog.keyType 158=true:=by kernel_rfl
 have h2:(plK i p).formed Tryz.prog 158=true:=by kernel_rfl
 have hu:=Tryz.underlying158
 have wi:=wf_i64 hi
 have wp:=wf_i64 hp
 have hc:Tryz.prog.cellsOf 158=2:=by kernel_rfl
 have hc1:Tryz.prog.cellsOf 3=1:=by kernel_rfl
 have ui:=Tryz.underlying3
 have hl:Tryz.prog.keyLits (Tryz.prog.types.size+1) 158 [.int .i64 i,.int .i64 p]=some [.int .i64 i,.int .i64 p]:=by
  obtain ⟨n,hn⟩:∃ n,Tryz.prog.types.size+1=n+2:=⟨Tryz.prog.types.size-1,by kernel_rfl⟩
  rw [hn]
  simp [Program.keyLits,hu,ui,hc,hc1,wi,wp]
 unfold keyOf
 rw [hu]
 show (if (Tryz.prog.keyType 158&&(plK i p).formed Tryz.prog 158)=true then (Tryz.prog.keyLits (Tryz.prog.types.size+1) 158 [.int .i64 i,.int .i64 p]).map (fun ls=>Lit.string (keyBytes ls)) else none)=_
 rw [h1,h2,hl]
 rfl
theorem plL_inj {i p i' p':Int}(hi:I64 i)(hp:I64 p)(hi':I64 i')(hp':I64 p')(h:plL i p=plL i' p'):i=i'∧p=p':=by
 have h2:=keyedPl.inj (key_pl hi hp) (h▸key_pl hi' hp')
 unfold plK at h2
 simp only [Value.agg.injEq] at h2
 have:=congrArg Array.toList h2
 simpa using this
/-- An element: frame, and when it was asked for. -/
def keV (f t:Int):Value:=.agg #[.int .i64 f,.int .u64 t]
def keD (f t:Int):DataW Unit:=.agg [.lit (.int .i64 f),.lit (.int .u64 t)]
def rdK2 (l:List Value):Option (DataW Unit × List MemPlace):=match l with
 | [.int .i64 f,.int .u64 t]=>some (keD f t,[])
 | _=>none
def rdK (x:Value):Option (DataW Unit × List MemPlace):=match x with
 | .agg cs=>rdK2 cs.toList
 | _=>none
theorem rdK_v (f t:Int):rdK (keV f t)=some (keD f t,[]):=rfl
theorem rdK_inv {x:Value}{y:DataW Unit × List MemPlace}(h:rdK x=some y):∃ f t,x=keV f t∧y=(keD f t,[]):=by
 unfold rdK at h
 split at h
 ·rename_i cs
  obtain ⟨l⟩:=cs
  simp only at h
  unfold rdK2 at h
  split at h
  ·rename_i f t
   exact ⟨f,t,rfl,(Option.some.inj h).symm⟩
  ·cases h
 ·cases h
theorem keD_inj {f t f' t':Int}(h:keD f t=keD f' t'):f=f'∧t=t':=by
 unfold keD at h
 simpa using h
theorem rdK_at {x:Value}{f t:Int}{ps:List MemPlace}(h:rdK x=some (keD f t,ps)):x=keV f t:=by
 obtain ⟨f',t',rfl,e⟩:=rdK_inv h
 obtain ⟨rfl,rfl⟩:=keD_inj (congrArg Prod.fst e)
 rfl
def slD (o:Option SLO)(z:DataW Unit):DataW Unit:=match o with
 | some x=>keD x.f x.t
 | none=>z
/-- The map in memory: at most N entries. -/
structure CMv (D:DataW Unit)(sl:List SLO):Prop where
 at_:∀ i p,I64 i→I64 p→∀ z,D.atKey (plL i p) z=slD (lookS sl i p) z
 only:∀ kl,Maps.has D kl=true→∃ x∈sl,kl=plL x.i x.p∧lookS sl x.i x.p=some x
 ok:∀ x∈sl,I64 x.i∧I64 x.p
def CM (w:World)(m N:Nat)(sl:List SLO):Prop:=∃ D,w.ownsMap Tryz.prog 158 rdK m N D∧CMv D sl
theorem CMv.has {D:DataW Unit}{sl:List SLO}(h:CMv D sl){i p:Int}(hi:I64 i)(hp:I64 p):Maps.has D (plL i p)=(lookS sl i p).isSome:=by
 cases hl:lookS sl i p with
 | none=>exact has_false_of_atKey fun z=>by rw [h.at_ i p hi hp,hl];rfl
 | some x=>exact has_true_of_atKey (y:=keD x.f x.t) fun z=>by rw [h.at_ i p hi hp,hl];rfl
theorem find_same {α:Type}{f g:α→Bool}:∀ {l:List α},(∀ x∈l,f x=g x)→l.find? f=l.find? g
 | [],_=>rfl
 | x::l,h=>by
  rw [List.find?_cons,List.find?_cons,h x (by simp),find_same fun y hy=>h y (List.mem_cons_of_mem _ hy)]
theorem look_app {sl:List SLO}{i p i' p' f t:Int}:lookS (strikeS sl i p++[⟨i,p,f,t⟩]) i' p'=if i'=i∧p'=p then some ⟨i,p,f,t⟩ else lookS sl i' p':=by
 unfold lookS
 rw [List.find?_append]
 by_cases h:i'=i∧p'=p
 ·obtain ⟨rfl,rfl⟩:=h
  rw [if_pos ⟨rfl,rfl⟩]
  have:(strikeS sl i' p').find? (keyB i' p')=none:=by
   rw [List.find?_eq_none]
   intro x hx e
   exact (strike_mem.1 hx).2 (keyB_iff.1 e)
  rw [this]
  simp [keyB]
 ·rw [if_neg h]
  have h1:([⟨i,p,f,t⟩]:List SLO).find? (keyB i' p')=none:=by
   rw [List.find?_eq_none]
   intro x hx e
   rw [List.mem_singleton.1 hx] at e
   have:=keyB_iff.1 e
   exact h ⟨this.1.symm,this.2.symm⟩
  rw [h1,Option.or_none]
  unfold strikeS
  rw [List.find?_filter]
  refine find_same ?_
  intro x hx
  cases hb:keyB i' p' x
  ·simp
  ·have:=keyB_iff.1 hb
   have h2:keyB i p x=false:=by
    cases hb2:keyB i p x
    ·rfl
    ·have h3:=keyB_iff.1 hb2
     exact absurd ⟨this.1.symm.trans h3.1,this.2.symm.trans h3.2⟩ h
   simp [h2]
theorem look_strike {sl:List SLO}{i p i' p':Int}:lookS (strikeS sl i p) i' p'=if i'=i∧p'=p then none else lookS sl i' p':=by
 by_cases h:i'=i∧p'=p
 ·obtain ⟨rfl,rfl⟩:=h
  rw [if_pos ⟨rfl,rfl⟩]
  unfold lookS
  rw [List.find?_eq_none]
  intro x hx e
  exact (strike_mem.1 hx).2 (keyB_iff.1 e)
 ·have:=@look_app sl i p i' p' 0 0
  rw [if_neg h] at this ⊢
  rw [← this]
  unfold lookS
  rw [List.find?_append]
  have h1:([⟨i,p,0,0⟩]:List SLO).find? (keyB i' p')=none:=by
   rw [List.find?_eq_none]
   intro x hx e
   rw [List.mem_singleton.1 hx] at e
   have:=keyB_iff.1 e
   exact h ⟨this.1.symm,this.2.symm⟩
  rw [h1,Option.or_none]
theorem CMv.put {D:DataW Unit}{sl:List SLO}(h:CMv D sl)(hm:IsMap D){i p f t:Int}(hi:I64 i)(hp:I64 p):CMv (D.put (plL i p) (keD f t)) (strikeS sl i p++[⟨i,p,f,t⟩]):=by
 refine ⟨fun i' p' hi' hp' z=>?_,fun kl hk=>?_,fun x hx=>?_⟩
 ·rw [look_app]
  by_cases c:i'=i∧p'=p
  ·obtain ⟨rfl,rfl⟩:=c
   rw [if_pos ⟨rfl,rfl⟩,atKey_put_same hm (by trivial)]
   rfl
  ·rw [if_neg c,atKey_put_other (fun e=>c (plL_inj hi' hp' hi hp e)),h.at_ i' p' hi' hp']
 ·by_cases c:kl=plL i p
  ·exact ⟨_,List.mem_append_right _ (List.mem_singleton.2 rfl),c,by rw [look_app,if_pos ⟨rfl,rfl⟩]⟩
  ·rw [has_put_other c] at hk
   obtain ⟨x,hx,rfl,hl⟩:=h.only kl hk
   have hne:¬ (x.i=i∧x.p=p):=fun e=>c (by rw [e.1,e.2])
   exact ⟨x,List.mem_append_left _ (strike_mem.2 ⟨hx,hne⟩),rfl,by rw [look_app,if_neg hne,hl]⟩
 ·rcases List.mem_append.1 hx with hx|hx
  ·exact h.ok x (strike_mem.1 hx).1
  ·rw [List.mem_singleton.1 hx];exact ⟨hi,hp⟩
theorem CMv.del {D:DataW Unit}{sl:List SLO}(h:CMv D sl){i p:Int}(hi:I64 i)(hp:I64 p):CMv (D.del (plL i p)) (strikeS sl i p):=by
 refine ⟨fun i' p' hi' hp' z=>?_,fun kl hk=>?_,fun x hx=>h.ok x (strike_mem.1 hx).1⟩
 ·rw [look_strike]
  by_cases c:i'=i∧p'=p
  ·obtain ⟨rfl,rfl⟩:=c
   rw [if_pos ⟨rfl,rfl⟩,atKey_del_same]
   rfl
  ·rw [if_neg c,atKey_del_other (fun e=>c (plL_inj hi' hp' hi hp e)),h.at_ i' p' hi' hp']
 ·by_cases c:kl=plL i p
  ·rw [c,has_del_same] at hk
   cases hk
  ·rw [has_del_other c] at hk
   obtain ⟨x,hx,rfl,hl⟩:=h.only kl hk
   have hne:¬ (x.i=i∧x.p=p):=fun e=>c (by rw [e.1,e.2])
   exact ⟨x,strike_mem.2 ⟨hx,hne⟩,rfl,by rw [look_strike,if_neg hne,hl]⟩
section
variable {w w':World}{m N:Nat}{sl:List SLO}
theorem CM.made (w:World):CM (w.alloc (.map #[] 0)) w.heap.size 0 []:=⟨_,World.ownsMap_made _ _ _ _,⟨fun _ _ _ _ _=>rfl,fun kl h=>(by cases h),fun x hx=>(by cases hx)⟩⟩
theorem CM.lt (h:CM w m N sl):m<w.heap.size:=by obtain ⟨D,h1,_⟩:=h;exact h1.lt
theorem CM.same (h:CM w m N sl)(e:w'.heap[m]?=w.heap[m]?):CM w' m N sl:=by
 obtain ⟨D,⟨es,clock,hm,F,hs,hD⟩,hv⟩:=h
 exact ⟨D,⟨es,clock,e.trans hm,F,hs,hD⟩,hv⟩
theorem CM.below (h:CM w m N sl)(hb:Below w.heap.size w w'):CM w' m N sl:=h.same (hb.block m h.lt)
theorem CM.ex {S:Nat→Prop}(h:CM w m N sl)(he:EX S w w')(hn:¬ S m):CM w' m N sl:=h.same (he.block m h.lt hn)
theorem CM.row {g:Nat}{T:TypeId}{cs:List Value}(h:CM w m N sl)(hr:Row w g T cs):m≠g:=by
 rintro rfl
 obtain ⟨D,⟨es,clock,hb,_⟩,_⟩:=h
 have:=hr.heap
 rw [hb] at this
 cases this
theorem CM.look (h:CM w m N sl){i p:Int}(hi:I64 i)(hp:I64 p):
 (Instr.lookup 133 (.map (some m)) (plK i p) true).run Tryz.prog w=.ok (.tuple #[(match lookS sl i p with|some x=>keV x.f x.t|none=>keV 0 0),.bool (lookS sl i p).isSome]) w:=by
 obtain ⟨D,h1,hv⟩:=h
 obtain ⟨v,ps,hrun,hr⟩:=World.ownsMap.look_ok h1 keyedPl Tryz.underlying133 (z:=keV 0 0) (by kernel_rfl) (rdK_v 0 0) (key_pl hi hp)
 rw [hrun,hv.has hi hp]
 rw [hv.at_ i p hi hp] at hr
 cases hl:lookS sl i p with
 | none=>rw [hl] at hr;rw [rdK_at hr]
 | some x=>rw [hl] at hr;rw [rdK_at hr]
theorem CM.get (h:CM w m N sl){i p:Int}(hi:I64 i)(hp:I64 p){x:SLO}(hx:lookS sl i p=some x):
 (Instr.lookup 133 (.map (some m)) (plK i p) false).run Tryz.prog w=.ok (keV x.f x.t) w:=by
 obtain ⟨D,h1,hv⟩:=h
 obtain ⟨v,ps,hrun,hr⟩:=World.ownsMap.lookup h1 keyedPl Tryz.underlying133 (z:=keV 0 0) (by kernel_rfl) (rdK_v 0 0) (key_pl hi hp)
 rw [hrun]
 rw [hv.at_ i p hi hp,hx] at hr
 rw [rdK_at hr]
theorem CM.put (h:CM w m N sl)(hN:N<maxLen){i p f t:Int}(hi:I64 i)(hp:I64 p):
 ∃ w',(Instr.mapUpdate 133 (.map (some m)) (plK i p) (keV f t)).run Tryz.prog w=.ok () w'∧CM w' m (N+1) (strikeS sl i p++[⟨i,p,f,t⟩])∧w.grownBy w' (some m)∧w'.heap.size=w.heap.size:=by
 obtain ⟨D,h1,hv⟩:=h
 obtain ⟨w',hrun,h2,h3⟩:=World.ownsMap.store h1 keyedPl Tryz.underlying133 hN (key_pl hi hp) (rdK_v f t)
 refine ⟨w',hrun,⟨_,h2,hv.put h1.isMap hi hp⟩,h3.grown,?_⟩
 obtain ⟨es,clock,es',clock',hb,rfl⟩:=h3
 simp [setBlock]
theorem CM.del (h:CM w m N sl){i p:Int}(hi:I64 i)(hp:I64 p)(ty:TypeId):
 ∃ w',(Builtin.delete_ #[133,158] ty #[.map (some m),plK i p]).run Tryz.prog w=.ok (.tuple #[]) w'∧CM w' m N (strikeS sl i p)∧w.grownBy w' (some m)∧w'.heap.size=w.heap.size:=by
 obtain ⟨D,h1,hv⟩:=h
 obtain ⟨w',hrun,h2,h3⟩:=World.ownsMap.drop h1 keyedPl Tryz.underlying133 (key_pl hi hp) ty
 refine ⟨w',hrun,⟨_,h2,hv.del hi hp⟩,h3.grown,?_⟩
 obtain ⟨es,clock,es',clock',hb,rfl⟩:=h3
 simp [setBlock]
end
end Go.Proofs.YtdjpjfdeeelijaaGreatDoor
