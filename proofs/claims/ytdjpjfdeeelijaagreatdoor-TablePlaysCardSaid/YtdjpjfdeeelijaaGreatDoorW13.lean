/- The document's table and its cache: what a step leaves; slices of leaves cut at variable places. hostelref09: Map; what it wants. hostelref09: Map. hostelref09: Unmap. hostelref09: Set. -/
import Derived.Test.YtdjpjfdeeelijaaGreatDoorGx1
import Derived.StillTailTactics
import Derived.Deep.RegionHeld3
namespace Go.Proofs.YtdjpjfdeeelijaaGreatDoor
open Go.RowKit Go.Sort Go.Shelf Go.WideMaps Go.Maps Go.WideShapes Go.WideElems Go.MapKept Go.ChangeMaps
attribute [local go_sem] Oper.semAt_some
/-- What the document's table and its cache may write. -/
def RT (a b d tb:Nat)(vs:List Value)(vS vL vP:Value)(k:Nat):Prop:=R8 a b d vs vS k∨k=tb∨vL.ownBlock=some k∨vP.ownBlock=some k
/-- A step of both. -/
structure TSt (base q a b G d tb root:Nat)(vS vL vP:Value)(vs:List Value)(w:World)(s':CC)(vS':Value)(vs':List Value)(Ls':List (List Int))(L':List ND9)(P':List LF)(fr':Bool)(vL' vP':Value)(w':World):Prop where
 rc:RCW w' base q a b G d vS' s' vs' Ls'
 t9:T9 w' base tb d root vL' vP' L' P' fr'
 ex:EX (RT a b d tb vs vS vL vP) w w'
 al:∀ k,k<w.heap.size→RT a b d tb vs' vS' vL' vP' k→RT a b d tb vs vS vL vP k
section
variable {base q a b G d tb root:Nat}{vS vS1 vS2 vL vL1 vL2 vP vP1 vP2:Value}{vs vs1 vs2:List Value}{s s1 s2:CC}{Ls Ls1 Ls2:List (List Int)}{L L1 L2:List ND9}{P P1 P2:List LF}{fr fr1 fr2:Bool}{w w1 w2:World}
theorem TSt.refl (T:T9 w base tb d root vL vP L P fr)(R:RCW w base q a b G d vS s vs Ls):TSt base q a b G d tb root vS vL vP vs w s vS vs Ls L P fr vL vP w:=⟨R,T,EX.refl _,fun _ _ h=>h⟩
/-- A step of the cache's. -/
theorem TSt.refr (h:TSt base q a b G d tb root vS vL vP vs w s1 vS1 vs1 Ls1 L1 P1 fr1 vL1 vP1 w1)(r:RSt base q a b G d vS1 vs1 w1 s2 vS2 vs2 Ls2 w2):TSt base q a b G d tb root vS vL vP vs w s2 vS2 vs2 Ls2 L1 P1 fr1 vL1 vP1 w2:=
 ⟨r.rc,h.t9.refr h.rc r,h.ex.andThen r.ex (fun k hk e=>h.al k hk (.inl e)),fun k hk e=>by
  rcases e with e|e
  ·exact h.al k hk (.inl (r.al k (Nat.lt_of_lt_of_le hk h.ex.size) e))
  ·exact h.al k hk (.inr e)⟩
theorem TSt.still (h:TSt base q a b G d tb root vS vL vP vs w s1 vS1 vs1 Ls1 L1 P1 fr1 vL1 vP1 w1)(hb:Below w1.heap.size w1 w2):TSt base q a b G d tb root vS vL vP vs w s1 vS1 vs1 Ls1 L1 P1 fr1 vL1 vP1 w2:=
 ⟨h.rc.below hb,h.t9.below hb,h.ex.trans (EX.of_below hb),h.al⟩
/-- What the cache is in stands where other types turn. -/
theorem RCW.off {S:Nat→Prop}(R:RCW w base q a b G d vS s vs Ls)(he:EX S w w1)(hS:∀ k,S k→∃ E cs,Row w k E cs∧E≠152∧E≠175∧E≠149∧E≠3∧E≠89∧E≠5):RCW w1 base q a b G d vS s vs Ls:=by
 have ne:∀ {k:Nat} {E:TypeId} {cs:List Value},Row w k E cs→(E=152∨E=175∨E=149∨E=3∨E=89∨E=5)→¬ S k:=fun hr h hk=>by
  obtain ⟨E',cs',hr',h1,h2,h3,h4,h5,h6⟩:=hS _ hk
  rcases h with rfl|rfl|rfl|rfl|rfl|rfl
  ·exact row_tys hr hr' h1.symm rfl
  ·exact row_tys hr hr' h2.symm rfl
  ·exact row_tys hr hr' h3.symm rfl
  ·exact row_tys hr hr' h4.symm rfl
  ·exact row_tys hr hr' h5.symm rfl
  ·exact row_tys hr hr' h6.symm rfl
 exact ⟨he.row R.row (ne R.row (.inl rfl)),he.own R.own (fun k e=>by obtain ⟨ds,hr⟩:=own_rowK R.own k e;exact ne hr (.inr (.inl rfl))),
  R.rs.exS he (ne R.rs.rp.pool (.inr (.inr (.inl rfl)))) (ne R.rs.rp.cnts (.inr (.inr (.inr (.inl rfl))))) (ne R.rs.rp.bys (.inr (.inr (.inr (.inr (.inl rfl)))))) (fun x hx=>by obtain ⟨ds,hr⟩:=old_row R hx;exact ne hr (.inr (.inr (.inr (.inr (.inr rfl)))))),R.hd,R.lo⟩
/-- The table's own blocks turn. -/
theorem TSt.own (h:TSt base q a b G d tb root vS vL vP vs w s1 vS1 vs1 Ls1 L1 P1 fr1 vL1 vP1 w1)(he:EX (fun k=>k=tb∨vL1.ownBlock=some k∨vP1.ownBlock=some k) w1 w2)(ht:T9 w2 base tb d root vL2 vP2 L2 P2 fr2)
 (hv:∀ x,vL2.ownBlock=some x→vL1.ownBlock=some x∨w1.heap.size≤x) (hu:∀ x,vP2.ownBlock=some x→vP1.ownBlock=some x∨w1.heap.size≤x):TSt base q a b G d tb root vS vL vP vs w s1 vS1 vs1 Ls1 L2 P2 fr2 vL2 vP2 w2:=by
 refine ⟨h.rc.off he fun k hk=>?_,ht,h.ex.andThen he fun k hk e=>h.al k hk (.inr e),fun k hk e=>?_⟩
 ·rcases hk with rfl|e|e
  ·exact ⟨_,_,h.t9.row,by decide,by decide,by decide,by decide,by decide,by decide⟩
  ·obtain ⟨ds,hr⟩:=own_rowK h.t9.ln k e
   exact ⟨_,_,hr,by decide,by decide,by decide,by decide,by decide,by decide⟩
  ·obtain ⟨ds,hr⟩:=own_rowK h.t9.pn k e
   exact ⟨_,_,hr,by decide,by decide,by decide,by decide,by decide,by decide⟩
 ·have hk1:=Nat.lt_of_lt_of_le hk h.ex.size
  rcases e with e|e|e|e
  ·exact h.al k hk (.inl e)
  ·exact h.al k hk (.inr (.inl e))
  ·rcases hv k e with e|e
   ·exact h.al k hk (.inr (.inr (.inl e)))
   ·omega
  ·rcases hu k e with e|e
   ·exact h.al k hk (.inr (.inr (.inr e)))
   ·omega
theorem T9.setL (T:T9 w base tb d root vL vP L P fr)(he:EX (fun k=>vL.ownBlock=some k) w w1)(ho:w1.ownsRow base 169 3 vL1 L1.length (L1.map nd9C).flatten):T9 (w1.setCell ⟨tb,2,none⟩ vL1) base tb d root vL1 vP L1 P fr∧EX (fun k=>k=tb∨vL.ownBlock=some k∨vP.ownBlock=some k) w (w1.setCell ⟨tb,2,none⟩ vL1):=by
 have hr:Row w1 tb 155 _:=he.row T.row fun e=>own_row_neK T.ln T.row (by decide) e.symm
 have hp:=he.own T.pn fun k e e2=>by
  obtain ⟨ds,hr⟩:=own_rowK T.ln k e2
  exact own_row_neK T.pn hr (by decide) e.symm
 exact ⟨⟨hr.set 2 _,own_setOther ho (own_row_neK ho hr (by decide)) _,own_setOther hp (own_row_neK hp hr (by decide)) _,T.lo⟩,(he.mono fun k _ e=>.inr (.inl e)).set (.inl (.inl rfl)) 2 _⟩
theorem T9.setP (T:T9 w base tb d root vL vP L P fr)(he:EX (fun k=>vP.ownBlock=some k) w w1)(ho:w1.ownsRow base 166 4 vP1 P1.length (P1.map putC).flatten):T9 (w1.setCell ⟨tb,3,none⟩ vP1) base tb d root vL vP1 L P1 fr∧EX (fun k=>k=tb∨vL.ownBlock=some k∨vP.ownBlock=some k) w (w1.setCell ⟨tb,3,none⟩ vP1):=by
 have hr:Row w1 tb 155 _:=he.row T.row fun e=>own_row_neK T.pn T.row (by decide) e.symm
 have hp:=he.own T.ln fun k e e2=>by
  obtain ⟨ds,hr⟩:=own_rowK T.pn k e2
  exact own_row_neK T.ln hr (by decide) e.symm
 exact ⟨⟨hr.set 3 _,own_setOther hp (own_row_neK hp hr (by decide)) _,own_setOther ho (own_row_neK ho hr (by decide)) _,T.lo⟩,(he.mono fun k _ e=>.inr (.inr e)).set (.inl (.inl rfl)) 3 _⟩
theorem T9.setFr (T:T9 w base tb d root vL vP L P fr)(b:Bool):T9 (w.setCell ⟨tb,4,none⟩ (.bool b)) base tb d root vL vP L P b∧EX (fun k=>k=tb∨vL.ownBlock=some k∨vP.ownBlock=some k) w (w.setCell ⟨tb,4,none⟩ (.bool b)):=
 ⟨⟨T.row.set 4 _,own_setOther T.ln (own_row_neK T.ln T.row (by decide)) _,own_setOther T.pn (own_row_neK T.pn T.row (by decide)) _,T.lo⟩,(EX.refl w).set (.inl (.inl rfl)) 4 _⟩
end
/-- A slice of leaves from a place on. -/
theorem slFrom4 (k:IntKind)(a a':Option Addr)(len cap f:Nat)(x:Int)(hx:x=(f:Int))(hf:f≤len)(ha:a'=if cap=f then a else a.map (·.add (f*4)))(w:World):
 (Instr.slice 84 (.slice a len cap) (some (.int k x)) none none).run Tryz.prog w=.ok (.slice a' (len-f) (cap-f)) w:=by
 subst hx;subst ha
 have hz:∀ w,(sizeOf (Tryz.prog.elem 84)).run Tryz.prog w=.ok 4 w:=fun w=>by kernel_rfl
 rw [run_slice_l w 84 _ _ _ (by kernel_rfl) k f (by omega) (by omega),hz]
 simp only [Result.andThen,sliced,Int.toNat_natCast]
theorem slTo4 (k:IntKind)(a:Option Addr)(len cap m:Nat)(x:Int)(hx:x=(m:Int))(hm:m≤cap)(w:World):
 (Instr.slice 84 (.slice a len cap) none (some (.int k x)) none).run Tryz.prog w=.ok (.slice a m cap) w:=by
 subst hx
 have hz:∀ w,(sizeOf (Tryz.prog.elem 84)).run Tryz.prog w=.ok 4 w:=fun w=>by kernel_rfl
 rw [run_slice_h w 84 _ _ _ (by kernel_rfl) k m (by omega) (by omega),hz]
 have e:a.map (·.add 0)=a:=by cases a <;> simp [Addr.add]
 simp only [Result.andThen,sliced,Int.toNat_natCast,Nat.zero_mul,e,Nat.sub_zero]
 split <;> rfl
theorem Rk.from4 {w:World}{a:Option Addr}{len cap f:Nat}{rows:List (List Value)}(h:Rk w 4 a len rows)(hf:f≤len)(hc:len≤cap):Rk w 4 (if cap=f then a else a.map (·.add (f*4))) (len-f) (rows.drop f):=by
 obtain rfl:=h.hlen
 by_cases hcf:cap=f
 ·have:rows.length=f:=by omega
  rw [List.drop_of_length_le (by omega),this,Nat.sub_self]
  exact Rk.nil _ _ _
 ·rw [if_neg hcf]
  refine ⟨by simp,fun i hi=>?_⟩
  have hi':f+i<rows.length:=by simp at hi;omega
  obtain ⟨h1,b,off,rfl,hcell⟩:=h.row (f+i) hi'
  have e9:(rows.drop f)[i]=rows[f+i]:=by simp
  rw [e9]
  refine ⟨h1,b,off+f*4,by by_cases e0:f=0 <;> simp [Addr.add,e0] <;> omega,fun j hj=>?_⟩
  rw [show off+f*4+i*4+j=off+(f+i)*4+j by omega]
  exact hcell j hj
/-- append(v, rows), that may be none; and where the result lies. -/
theorem wpList_apKo {Pr:Program}{tS tE:TypeId}{k bytes:Nat}{z:Value}(hund:Pr.underlying tS=some (.slice tE))(hinfo:(Pr.info? tE).map (fun i=>(i.zero,i.size,i.bytes))=some (some z,k,bytes))(hzc:z.cells.size=k)(hkp:0<k)
 {w:World} {ops:Array Oper} {rest:List Oper} {o:Oper} {a:Act} {Q:Exit→Act→World→Prop} (hgd:o.guard=none) (s x:Operand)
 (ho:o.op=.call { callee:=.builtin .append,args:=#[s,x],argTypes:=#[tS,tS] })
 (base:Nat) (v:Value) (n:Nat) (rows news:List (List Value)) (hs:a.eval s=v) (ad:Option Addr) (m c:Nat) (hx:a.eval x=.slice ad m c) (hown:w.ownsRow base tE k v n rows.flatten) (hy:Rk w k ad m news) (hone:∀ r∈news,∀ u∈r,u.oneCell'=true) (hc:ad=none→c=0) (hn:(n+m)*bytes≤140737488355328) (hm:n+m≤maxLen) (hbase:base≤w.heap.size)
 (h:∀ v' w',w'.ownsRow base tE k v' (n+m) (rows++news).flatten→w.grownBy w' v.ownBlock→(∀ x,v'.ownBlock=some x→v.ownBlock=some x∨w.heap.size≤x)→wpList Pr ops Q rest (a.put o.dst v') w'):
 wpList Pr ops Q (o::rest) a w:=by
 obtain ⟨i0,hi0,hz0,hz1,hz2⟩:=info_parts hinfo
 cases ad with
 | none=>
  obtain rfl:news=[]:=by
   cases news with
   | nil=>rfl
   | cons x l=>obtain ⟨_,_,h,_⟩:=hy.some_of (by simp);cases h
  obtain rfl:=hc rfl
  obtain rfl:m=0:=hy.hlen.symm
  refine wpList_append_own_none hgd s x _ ho base _ i0 k hund hi0 v n _ hs hown hx ?_
  exact h v w (by rw [List.append_nil];exact hown) (World.grownBy.refl w _) (fun x e=>.inl e)
 | some ad=>
  refine wpList_apKat hund hinfo hzc hkp hgd s x ho base v n rows news hs ad m c hx hown hy hone hn hm hbase fun v' w' h1 h2 h3=>h v' w' h1 h2 fun x e=>?_
  rcases h3 with h3|h3
  ·exact .inl (h3▸e)
  ·rw [h3] at e
   exact .inr (Nat.le_of_eq (Option.some.inj e))
section
variable {base q a b G d tb root:Nat}{vS vS1 vS2 vL vL1 vL2 vP vP1 vP2:Value}{vs vs1 vs2:List Value}{s s1 s2:CC}{Ls Ls1 Ls2:List (List Int)}{L L1 L2:List ND9}{P P1 P2:List LF}{fr fr1 fr2:Bool}{w w1 w2:World}
theorem mores_there {ad k:Nat}(h:(nodeF root L ad (k+1)).isSome=true):moresR root L ad (k+1) s=moresR root L ad k s:=by
 rw [moresR,if_pos h]
theorem mores_none {ad k:Nat}{e:Int}{s':CC}(h:nodeF root L ad (k+1)=none)(ht:takC s=(0,e,s'))(he:e≠0):moresR root L ad (k+1) s=(s',[],e):=by
 rw [moresR,if_neg (by rw [h];decide),ht,if_pos he]
theorem mores_took {ad k f:Nat}{s':CC}(h:nodeF root L ad (k+1)=none)(ht:takC s=((f:Int),0,s')):moresR root L ad (k+1) s=((moresR root L ad k s').1,⟨k+1,ad/2 ^ (12+9*(k+1)),f⟩::(moresR root L ad k s').2.1,(moresR root L ad k s').2.2):=by
 rw [moresR,if_neg (by rw [h];decide),ht,if_neg (by simp)]
 rfl
theorem Good.lim {rd:Int→Int→List UInt8 × Int}{hx:List Nat}(g:Good rd s hx)(h1:hx.length≤1000000000)(h2:s.tn≤1000000000):Lim s:=by
 intro c hc
 obtain ⟨x,hx,rfl⟩:=List.mem_map.1 hc
 have:=g.small x hx
 omega
theorem RSt.off {S:Nat→Prop}(h:RSt base q a b G d vS vs w s1 vS1 vs1 Ls1 w1)(he:EX S w1 w2)(hS:∀ k,S k→∃ E cs,Row w1 k E cs∧E≠152∧E≠175∧E≠149∧E≠3∧E≠89∧E≠5)(hlow:∀ k,S k→w.heap.size≤k):RSt base q a b G d vS vs w s1 vS1 vs1 Ls1 w2:=
 ⟨h.rc.off he hS,h.ex.andThen he (fun k hk e=>absurd (hlow k e) (by omega)),h.al⟩
theorem RSt.more {B n size:Nat}{v:Value}{xs:List Value}(r:RSt base q a b G d vS1 vs1 w1 s2 vS2 vs2 Ls2 w2)(R:RCW w1 base q a b G d vS1 s1 vs1 Ls1)(h:w1.ownsRow B 169 size v n xs):w2.ownsRow B 169 size v n xs:=
 r.ex.own h fun k e=>by
  obtain ⟨ds,hr⟩:=own_rowK h k e
  exact R.nR hr (by decide) (by decide) (by decide) (by decide) (by decide)
theorem RSt.box {x:Nat}{cs:List Value}(r:RSt base q a b G d vS1 vs1 w1 s2 vS2 vs2 Ls2 w2)(R:RCW w1 base q a b G d vS1 s1 vs1 Ls1)(h:Row w1 x 31 cs):Row w2 x 31 cs:=
 r.ex.row h (R.nR h (by decide) (by decide) (by decide) (by decide) (by decide))
theorem ok_lay {f i x:Nat}(h:FsOk s.fs)(hi:i<512):FsOk (layC s f i x).fs:=by
 rcases layS_two (fs:=s.fs) (f:=f) (i:=i) (x:=x) with ⟨bs,hf,e,hb⟩|e
 ·show FsOk (layS s.fs f i x)
  rw [e]
  refine h.set f ?_
  have h1:=h _ (List.getElem_mem hf)
  rw [hb]
  have h2:=le8_len x
  show (splice s.fs[f].bs (8*i) (le8 x)).length=4096
  rw [length_splice _ _ _ (by rw [h1,h2];omega)]
  exact h1
 ·show FsOk (layS s.fs f i x)
  rw [e]
  exact h
theorem nodeF_lt {ad lv:Nat}(h:∀ x∈L,x.f<1024)(hr:root<1024):(nodeF root L ad lv).getD 0<1024:=by
 unfold nodeF
 split
 ·exact hr
 ·cases hf:L.find? fun x=>decide (x.lv=lv)&&decide (x.pt=ad/2 ^ (12+9*lv)) with
  | none=>exact Nat.succ_pos _
  | some x=>exact h x (List.mem_of_find?_eq_some hf)
theorem info_nd9:(Tryz.prog.info? 169).map (fun i=>(i.zero,i.size,i.bytes))=some (some (.agg #[.int .i64 0,.int .u64 0,.int .i64 0]),3,24):=by kernel_rfl
theorem nd9C_one (y:ND9):∀ v∈nd9C y,v.oneCell'=true:=by
 intro v hv
 simp only [nd9C,List.mem_cons,List.not_mem_nil,or_false] at hv
 rcases hv with rfl|rfl|rfl <;> rfl
theorem nd9C_ones (l:List ND9):∀ r∈l.map nd9C,∀ u∈r,u.oneCell'=true:=by
 intro r hr u hu
 obtain ⟨y,_,rfl⟩:=List.mem_map.1 hr
 exact nd9C_one y u hu
theorem putC_ones (l:List LF):∀ r∈l.map putC,∀ u∈r,u.oneCell'=true:=by
 intro r hr u hu
 obtain ⟨y,_,rfl⟩:=List.mem_map.1 hr
 exact putC_one y u hu
abbrev OwnM9 (w:World)(B:Nat)(v:Value)(l:List ND9):Prop:=w.ownsRow B 169 3 v l.length (l.map nd9C).flatten
abbrev OwnQ9 (w:World)(B:Nat)(v:Value)(l:List LF):Prop:=w.ownsRow B 166 4 v l.length (l.map putC).flatten
theorem ownM_app {B n m:Nat}{v:Value}{l x:List ND9}(h:w.ownsRow B 169 3 v (n+m) (l.map nd9C++x.map nd9C).flatten)(hn:n=l.length)(hm:m=x.length):OwnM9 w B v (l++x):=by
 subst hn;subst hm
 rw [← List.map_append] at h
 exact own_ext h (List.length_append ..).symm rfl
theorem ownQ_app {B n m:Nat}{v:Value}{l x:List LF}(h:w.ownsRow B 166 4 v (n+m) (l.map putC++x.map putC).flatten)(hn:n=l.length)(hm:m=x.length):OwnQ9 w B v (l++x):=by
 subst hn;subst hm
 rw [← List.map_append] at h
 exact own_ext h (List.length_append ..).symm rfl
theorem nd9_at {l:List ND9}{av:Option Addr}{k:Nat}(h:Rk w 3 av l.length (l.map nd9C))(hk:k<l.length):∃ b o,av=some ⟨b,o,none⟩∧w.cell? ⟨b,o+k*3+0,none⟩=some (.int .i64 (l[k].lv:Int))∧w.cell? ⟨b,o+k*3+1,none⟩=some (.int .u64 (l[k].pt:Int))∧w.cell? ⟨b,o+k*3+2,none⟩=some (.int .i64 (l[k].f:Int)):=by
 obtain ⟨bb,o,rfl,hcell⟩:=h.some_of (by simp;omega)
 have gq:=fun m hm=>hcell k (by simpa using hk) m hm
 have e9:(l.map nd9C)[k]'(by simpa using hk)=nd9C l[k]:=by simp
 rw [e9] at gq
 exact ⟨bb,o,rfl,gq 0 (by simp [nd9C]),gq 1 (by simp [nd9C]),gq 2 (by simp [nd9C])⟩
theorem put_at {l:List LF}{av:Option Addr}{k:Nat}(h:Rk w 4 av l.length (l.map putC))(hk:k<l.length):∃ b o,av=some ⟨b,o,none⟩∧w.cell? ⟨b,o+k*4+0,none⟩=some (.int .u64 (l[k].1:Int))∧w.cell? ⟨b,o+k*4+1,none⟩=some (.int .i64 (l[k].2.1:Int))∧w.cell? ⟨b,o+k*4+2,none⟩=some (.int .u8 (l[k].2.2.1:Int))∧w.cell? ⟨b,o+k*4+3,none⟩=some (.bool l[k].2.2.2):=by
 obtain ⟨bb,o,rfl,hcell⟩:=h.some_of (by simp;omega)
 have gq:=fun m hm=>hcell k (by simpa using hk) m hm
 have e9:(l.map putC)[k]'(by simpa using hk)=putC l[k]:=by simp
 rw [e9] at gq
 exact ⟨bb,o,rfl,gq 0 (by simp [putC]),gq 1 (by simp [putC]),gq 2 (by simp [putC]),gq 3 (by simp [putC])⟩
theorem nd9_rk {B:Nat}{v:Value}{l:List ND9}(h:OwnM9 w B v l):∃ av cap,v=.slice av l.length cap∧Rk w 3 av l.length (l.map nd9C)∧(av=none→cap=0)∧l.length≤cap:=by
 obtain ⟨av,cap,e,hrk,hn,hc,_⟩:=own_rk h (by intro r hr;obtain ⟨x,_,rfl⟩:=List.mem_map.1 hr;rfl) (by omega)
 exact ⟨av,cap,e,hrk,hn,hc⟩
theorem put_rk {B:Nat}{v:Value}{l:List LF}(h:OwnQ9 w B v l):∃ av cap,v=.slice av l.length cap∧Rk w 4 av l.length (l.map putC)∧(av=none→cap=0)∧l.length≤cap:=by
 obtain ⟨av,cap,e,hrk,hn,hc,_⟩:=own_rk h (by intro r hr;obtain ⟨x,_,rfl⟩:=List.mem_map.1 hr;rfl) (by omega)
 exact ⟨av,cap,e,hrk,hn,hc⟩
end
theorem insP_at {y:LF}:∀ {P:List LF} {k:Nat},k≤P.length→(∀ m,(hm:m<P.length)→m<k→P[m].1<y.1)→(∀ h:k<P.length,¬ P[k].1<y.1)→insP y P=P.take k++(y::P.drop k)
 | [],k,hk,_,_=>by
  obtain rfl:k=0:=by simpa using hk
  rfl
 | z::P,0,_,_,h=>by
  have h0:=h (Nat.succ_pos _)
  unfold insP
  rw [if_neg (by simpa using h0)]
  rfl
 | z::P,k+1,hk,h1,h2=>by
  have h0:=h1 0 (Nat.succ_pos _) (Nat.succ_pos _)
  unfold insP
  rw [if_pos (by simpa using h0),insP_at (k:=k) (by simpa using hk) (fun m hm hk=>by have:=h1 (m+1) (by simpa using hm) (by omega);simpa using this) (fun h=>by have:=h2 (by simpa using h);simpa using this)]
  rfl
theorem cntF_nn {fs:List FR}(h0:∀ x∈fs,0≤x.cnt)(f:Int):0≤cntF fs f:=by
 by_cases h:cntF fs f=0
 ·omega
 ·obtain ⟨k,hk,_,e⟩:=cnt_is h
  rw [e]
  exact h0 _ (List.getElem_mem hk)
theorem any_idx {P:List LF}{ad j:Nat}(h:P.findIdx? (fun y=>decide (y.1=ad/4096*4096))=some j):(P.any fun y=>decide (y.1=ad/4096*4096))=true∧atR P ad=(j:Int)∧j<P.length:=by
 obtain ⟨hj,h1,_⟩:=List.findIdx?_eq_some_iff_getElem.1 h
 exact ⟨List.any_eq_true.2 ⟨_,List.getElem_mem hj,h1⟩,by unfold atR;rw [h],hj⟩
theorem any_no {P:List LF}{ad:Nat}(h:P.findIdx? (fun y=>decide (y.1=ad/4096*4096))=none):(P.any fun y=>decide (y.1=ad/4096*4096))=false∧atR P ad=-1:=by
 refine ⟨List.any_eq_false.2 fun x hx=>?_,by unfold atR;rw [h]⟩
 have:=List.findIdx?_eq_none_iff.1 h x hx
 simpa using this
theorem fr_or (f:Nat)(hf:f<1048576):bits BinOp.or .u64 ((f*4096:Nat):Int) 1=((f*4096+1:Nat):Int):=by
 rw [show (1:Int)=((1:Nat):Int) from rfl,bits_or_u64_nat _ _ (by omega) (by omega)]
 congr 1
 rw [show f*4096=2 ^ 12*f by omega,Nat.two_pow_add_eq_or_of_lt (by omega)]
def MapP9 (base q a b G d tb root:Nat)(vS vL vP:Value)(vs:List Value)(w:World)(fr':Bool)(r:CC × List ND9 × List LF × Int)(e:Ending)(w':World):Prop:=
 e=.returned (.int .i64 r.2.2.2)∧∃ vS' vs' Ls' vL' vP',TSt base q a b G d tb root vS vL vP vs w r.1 vS' vs' Ls' r.2.1 r.2.2.1 fr' vL' vP' w'
section
variable {rd:Int→Int→List UInt8 × Int}{base q a b G d tb root:Nat}{vS vL vP:Value}{s:CC}{vs:List Value}{Ls:List (List Int)}{L:List ND9}{P:List LF}
set_option maxRecDepth 100000 in
set_option maxHeartbeats 16000000 in
/-- What is refused at once. -/
theorem mapBad_any (ad:Nat)(had:ad<18446744073709551616)(la lq:Int)(lb:Bool)(hq0:0≤lq)(hok:okA s ad la lq=false)(w:World)(H:T9 w base tb d root vL vP L P false)(R:RCW w base q a b G d vS s vs Ls):
 Calls Tryz.prog 33 #[.pointer (some ⟨tb,0,none⟩),.int .u64 (ad:Int),.agg #[.int .i64 la,.int .u8 lq,.bool lb]] w (MapP9 base q a b G d tb root vS vL vP vs w false (s,L,P,1)):=by
 obtain ⟨w1,hw1⟩:∃ w1,w1=w.alloc (.cells #[.int .i64 la,.int .u8 lq,.bool lb] 31):=⟨_,rfl⟩
 have HB1:=hid (show Below w.heap.size w w1 by rw [hw1];exact bal _)
 have HLB:=hid (show Row w1 w.heap.size 31 [.int .i64 la,.int .u8 lq,.bool lb] by rw [hw1];exact Row.new w _ _)
 have HW1:=hid hw1
 have HG:=hid (gone9_any w1 (H.below HB1.out))
 have HZ:=hid ((TSt.refl H R).still HB1.out)
 have HCT:=hid (fun n=>show Calls Tryz.prog 48 #[.pointer (some ⟨q,0,none⟩),.int .i64 la] (w1.drewN n) (fun e w'=>e=.returned (.int .i64 (cntF s.fs la))∧w1.drewN n=w') by
  have:=rcount_any q a b (cnts s.fs) vs la (w1.drewN n) ((HZ.out.rc.rs.rp).below (bdN (Below.refl _ _) n))
  rw [rcnt_map s.fs la] at this
  exact this)
 obtain ⟨c0,c1,c2,c3,c4⟩:=HZ.out.t9.five
 have htl:=HZ.out.t9.row.lt
 obtain ⟨r0,r1,r2⟩:=HZ.out.rc.row.three
 have hrl:=HZ.out.rc.row.lt
 obtain ⟨z0,z1,z2⟩:=HLB.out.three
 have hzl:=HLB.out.lt
 obtain ⟨cn,hcn⟩:∃ cn,cn=cntF s.fs la:=⟨_,rfl⟩
 rw [← hcn] at HCT
 have hcn0:0≤cn:=by rw [hcn];exact cntF_nn HZ.out.rc.h0 la
 have hT:(¬ ad<140737488355328)∨(ad<140737488355328∧¬ ad%4096=0)∨(ad<140737488355328∧ad%4096=0∧¬ lq≤7)∨(ad<140737488355328∧ad%4096=0∧lq≤7∧cn=0):=by
  unfold okA rightB at hok
  rw [← hcn] at hok
  simp only [Bool.and_eq_false_iff,decide_eq_false_iff_not] at hok
  omega
 clear H R hw1 hok c1 c2 c3 c4 hcn hcn0
 rcases hT with hT|⟨t1,hT⟩|⟨t1,t2,hT⟩|⟨t1,t2,t3,hT⟩
 ·have d1:decide ((140737488355328:Int)≤(ad:Int))=true:=by simp;omega
  clear hT
  go_enter Tryz.func33,Tryz.ntmps33
  go_wp2_with fail
  rw [← HW1.out]
  refine (HG.out).mono ?_
  rintro e w2 ⟨rfl,rfl⟩
  go_wp2_with fail
  go_quiet ((go_at_call 48;exact Calls.quiet_of_same ((HCT.out _).mono (fun _ _ h=>⟨h.1,h.2.symm⟩))))
  go_wp2_with fail
  go_ret
  exact ⟨rfl,_,_,_,_,_,HZ.out.still (bdN (Below.refl _ _) _)⟩
 ·have d1:decide ((140737488355328:Int)≤(ad:Int))=false:=by simp;omega
  obtain ⟨m,hm⟩:∃ m,m=ad%4096:=⟨_,rfl⟩
  have e1:(ad:Int).tmod 4096=(m:Int):=by rw [Int.tmod_eq_emod_of_nonneg (Int.natCast_nonneg _)];omega
  have d2:((m:Int) != 0)=true:=by simp;omega
  have d2n:(m != 0)=true:=by simp;omega
  clear hT t1 hm
  go_enter Tryz.func33,Tryz.ntmps33
  go_wp2_with fail
  rw [← HW1.out]
  refine (HG.out).mono ?_
  rintro e w2 ⟨rfl,rfl⟩
  go_wp2_with fail
  go_quiet ((go_at_call 48;exact Calls.quiet_of_same ((HCT.out _).mono (fun _ _ h=>⟨h.1,h.2.symm⟩))))
  go_wp2_with fail
  go_ret
  exact ⟨rfl,_,_,_,_,_,HZ.out.still (bdN (Below.refl _ _) _)⟩
 ·have d1:decide ((140737488355328:Int)≤(ad:Int))=false:=by simp;omega
  have e1:(ad:Int).tmod 4096=0:=by rw [Int.tmod_eq_emod_of_nonneg (Int.natCast_nonneg _)];omega
  have d3:decide (7<lq)=true:=by simp;omega
  clear hT t1 t2
  go_enter Tryz.func33,Tryz.ntmps33
  go_wp2_with fail
  rw [← HW1.out]
  refine (HG.out).mono ?_
  rintro e w2 ⟨rfl,rfl⟩
  go_wp2_with fail
  go_quiet ((go_at_call 48;exact Calls.quiet_of_same ((HCT.out _).mono (fun _ _ h=>⟨h.1,h.2.symm⟩))))
  go_wp2_with fail
  go_ret
  exact ⟨rfl,_,_,_,_,_,HZ.out.still (bdN (Below.refl _ _) _)⟩
 ·have d1:decide ((140737488355328:Int)≤(ad:Int))=false:=by simp;omega
  have e1:(ad:Int).tmod 4096=0:=by rw [Int.tmod_eq_emod_of_nonneg (Int.natCast_nonneg _)];omega
  have d3:decide (7<lq)=false:=by simp;omega
  subst hT
  clear t1 t2 t3
  go_enter Tryz.func33,Tryz.ntmps33
  go_wp2_with fail
  rw [← HW1.out]
  refine (HG.out).mono ?_
  rintro e w2 ⟨rfl,rfl⟩
  go_wp2_with fail
  go_quiet ((go_at_call 48;exact Calls.quiet_of_same ((HCT.out _).mono (fun _ _ h=>⟨h.1,h.2.symm⟩))))
  go_wp2_with fail
  go_ret
  exact ⟨rfl,_,_,_,_,_,HZ.out.still (bdN (Below.refl _ _) _)⟩
end
theorem lay_cnts {s:CC}{f i x:Nat}:cnts (layC s f i x).fs=cnts s.fs:=by
 show cnts (layS s.fs f i x)=_
 rcases layS_two (fs:=s.fs) (f:=f) (i:=i) (x:=x) with ⟨bs,hf,e,hb⟩|e
 ·rw [e]
  unfold cnts
  rw [List.map_set]
  refine List.ext_getElem (by simp) fun k h1 h2=>?_
  rw [List.getElem_set]
  split
  ·rename_i h;subst h;simp
  ·rfl
 ·rw [e]
theorem Lim.lay {s:CC}(h:Lim s)(f i x:Nat):Lim (layC s f i x):=by
 unfold Lim at h ⊢
 rw [lay_cnts]
 exact h
theorem ok_down {s:CC}{f:Nat}(h:FsOk s.fs):FsOk (dnC s f).fs:=by
 show FsOk (downS s.fs (f:Int))
 unfold downS
 split
 ·exact h
 ·rename_i h0
  obtain ⟨k,hk,e1,e2⟩:=cnt_is h0
  refine h.set _ ?_
  have e3:k=f:=by omega
  subst e3
  show ((s.fs.getD (((k:Nat):Int).toNat) default).bs).length=4096
  rw [Int.toNat_natCast,List.getD_eq_getElem?_getD,List.getElem?_eq_getElem hk]
  exact h _ (List.getElem_mem hk)
section
variable {root ad:Nat}{P:List LF}{r:CC × List ND9 × Bool}{s':CC}{L':List ND9}
theorem pru_stay {k:Nat}(h:(pruF root P ad k r).2.2=false):pruF root P ad (k+1) r=pruF root P ad k r:=by
 rw [pruF,if_pos h]
theorem pru_stop {k:Nat}(hk:k≤3)(h:(pruF root P ad k r).2.2=false):pruF root P ad 3 r=pruF root P ad k r:=by
 have h1:∀ m,k+m≤3→pruF root P ad (k+m) r=pruF root P ad k r:=by
  intro m
  induction m with
  | zero=>intro _;rfl
  | succ m ih=>
   intro hm
   have:=ih (by omega)
   rw [show k+(m+1)=(k+m)+1 by omega,pru_stay (by rw [this];exact h),this]
 have:=h1 (3-k) (by omega)
 rwa [show k+(3-k)=3 by omega] at this
theorem pru_used {k:Nat}(h:pruF root P ad k r=(s',L',true))(hu:usedF P ad (k+1)=true):pruF root P ad (k+1) r=(s',L',false):=by
 rw [pruF,h,if_neg (show ¬ (true=false) by decide),if_pos hu]
theorem pru_go {k:Nat}(h:pruF root P ad k r=(s',L',true))(hu:usedF P ad (k+1)=false):pruF root P ad (k+1) r=(dnC (layC s' ((nodeF root L' ad (k+2)).getD 0) (ixOf ad (k+1)) 0) ((nodeF root L' ad (k+1)).getD 0),L'.filter (fun x=>decide (x.f≠(nodeF root L' ad (k+1)).getD 0)),true):=by
 rw [pruF,h,if_neg (show ¬ (true=false) by decide),if_neg (by rw [hu];decide)]
end
theorem filter_snoc9 {α:Type}(p:α→Bool){l:List α}{m:Nat}(h:m<l.length):(l.take (m+1)).filter p=if p l[m]=true then (l.take m).filter p++[l[m]] else (l.take m).filter p:=by
 rw [List.take_succ_eq_append_getElem h,List.filter_append]
 cases hp:p l[m]
 ·rw [if_neg (by decide),List.filter_cons_of_neg (by rw [hp];decide),List.filter_nil,List.append_nil]
 ·rw [if_pos rfl,List.filter_cons_of_pos hp,List.filter_nil]
theorem flat_set4 {rows:List (List Value)}(hk:∀ r∈rows,r.length=4){j i:Nat}(hj:j<rows.length)(hi:i<4)(u:Value):rows.flatten.set (j*4+i) u=(rows.set j (rows[j].set i u)).flatten:=by
 induction rows generalizing j with
 | nil=>simp at hj
 | cons r rows ih=>
  have hr:=hk r (List.mem_cons_self ..)
  cases j with
  | zero=>
   rw [List.flatten_cons,List.set_cons_zero,List.flatten_cons,Nat.zero_mul,Nat.zero_add,List.set_append_left _ _ (by omega)]
   rfl
  | succ j=>
   have hj':j<rows.length:=by simpa using hj
   rw [List.flatten_cons,List.set_cons_succ,List.flatten_cons,List.set_append_right _ _ (by omega),hr,show (j+1)*4+i-4=j*4+i by omega,ih (fun x hx=>hk x (List.mem_cons_of_mem _ hx)) hj']
   rfl
theorem flat_sets4 {P:List LF}{j:Nat}(hj:j<P.length)(a q:Nat)(b:Bool):(((P.map putC).flatten.set (j*4+1) (.int .i64 (a:Int))).set (j*4+2) (.int .u8 (q:Int))).set (j*4+3) (.bool b)=((P.set j (P[j].1,a,q,b)).map putC).flatten:=by
 have hk:∀ r∈P.map putC,r.length=4:=by intro r hr;obtain ⟨x,_,rfl⟩:=List.mem_map.1 hr;rfl
 have hj':j<(P.map putC).length:=by simpa using hj
 have e0:(P.map putC)[j]=putC P[j]:=by simp
 rw [flat_set4 hk hj' (by decide),e0]
 have hk1:∀ r∈(P.map putC).set j ((putC P[j]).set 1 (.int .i64 (a:Int))),r.length=4:=fun r hr=>by
  rcases List.mem_or_eq_of_mem_set hr with h|h
  ·exact hk r h
  ·rw [h];rfl
 have hj1:j<((P.map putC).set j ((putC P[j]).set 1 (.int .i64 (a:Int)))).length:=by rw [List.length_set];exact hj'
 rw [flat_set4 hk1 hj1 (by decide),List.set_set,List.getElem_set_self]
 have hk2:∀ r∈(P.map putC).set j (((putC P[j]).set 1 (.int .i64 (a:Int))).set 2 (.int .u8 (q:Int))),r.length=4:=fun r hr=>by
  rcases List.mem_or_eq_of_mem_set hr with h|h
  ·exact hk r h
  ·rw [h];rfl
 have hj2:j<((P.map putC).set j (((putC P[j]).set 1 (.int .i64 (a:Int))).set 2 (.int .u8 (q:Int)))).length:=by rw [List.length_set];exact hj'
 rw [flat_set4 hk2 hj2 (by decide),List.set_set,List.getElem_set_self,List.map_set]
 rfl
section
variable {base tb d root:Nat}{vL vP:Value}{w:World}{L:List ND9}{P:List LF}{fr:Bool}
/-- A leaf turns in its place. -/
theorem T9.poke {b c j:Nat}(T:T9 w base tb d root vL (.slice (some ⟨b,0,none⟩) P.length c) L P fr)(hj:j<P.length)(a q:Nat)(cp:Bool):
 T9 (((w.setCell ⟨b,j*4+1,none⟩ (.int .i64 (a:Int))).setCell ⟨b,j*4+2,none⟩ (.int .u8 (q:Int))).setCell ⟨b,j*4+3,none⟩ (.bool cp)) base tb d root vL (.slice (some ⟨b,0,none⟩) P.length c) L (P.set j (P[j].1,a,q,cp)) fr∧
  EX (fun k=>k=tb∨vL.ownBlock=some k∨(Value.slice (some ⟨b,0,none⟩) P.length c).ownBlock=some k) w (((w.setCell ⟨b,j*4+1,none⟩ (.int .i64 (a:Int))).setCell ⟨b,j*4+2,none⟩ (.int .u8 (q:Int))).setCell ⟨b,j*4+3,none⟩ (.bool cp)):=by
 have he:EX (fun k=>k=tb∨vL.ownBlock=some k∨(Value.slice (some ⟨b,0,none⟩) P.length c).ownBlock=some k) w (((w.setCell ⟨b,j*4+1,none⟩ (.int .i64 (a:Int))).setCell ⟨b,j*4+2,none⟩ (.int .u8 (q:Int))).setCell ⟨b,j*4+3,none⟩ (.bool cp)):=
  (((EX.refl w).set (g:=b) (.inl (.inr (.inr rfl))) _ _).set (g:=b) (.inl (.inr (.inr rfl))) _ _).set (g:=b) (.inl (.inr (.inr rfl))) _ _
 have heb:EX (fun k=>k=b) w (((w.setCell ⟨b,j*4+1,none⟩ (.int .i64 (a:Int))).setCell ⟨b,j*4+2,none⟩ (.int .u8 (q:Int))).setCell ⟨b,j*4+3,none⟩ (.bool cp)):=
  (((EX.refl (S:=fun k=>k=b) w).set (g:=b) (.inl rfl) _ _).set (g:=b) (.inl rfl) _ _).set (g:=b) (.inl rfl) _ _
 obtain ⟨ds,hb⟩:=own_rowK T.pn b rfl
 refine ⟨⟨heb.row T.row fun e=>row_tys T.row hb (by decide) e,heb.own T.ln fun k e e2=>own_row_neK T.ln hb (by decide) (by rw [e,e2]),?_,T.lo⟩,he⟩
 have h3:=((World.ownsRow.stored (World.ownsRow.stored (World.ownsRow.stored T.pn (j*4+1) (.int .i64 (a:Int))).1 (j*4+2) (.int .u8 (q:Int))).1 (j*4+3) (.bool cp)).1)
 rw [flat_sets4 hj] at h3
 exact own_ext h3 (List.length_set ..).symm rfl
end
end Go.Proofs.YtdjpjfdeeelijaaGreatDoor
