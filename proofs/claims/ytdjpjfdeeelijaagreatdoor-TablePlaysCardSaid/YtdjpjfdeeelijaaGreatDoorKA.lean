/- Merged: B F N B2 B3 Q C T. -/
import Derived.WalkKit
import Derived.WalkSpells
import Derived.WalkLawsBesides
import Derived.Laws.CopyOwn
import Derived.Laws.IdiomStrings
import Derived.ProofKit
import Derived.LaidMore
import Derived.OpenShut
import Derived.MakeChecks
import Derived.Stop.Joined
import Derived.SevenTiedAt
import Derived.Carry
import Derived.ArgAppend
import Derived.Lib.QuietBelow
import Derived.BigQuiet
import Derived.Laws.RangeAny
namespace Go.Proofs.YtdjpjfdeeelijaaGreatDoor
open Go.RowKit
theorem hid {p:Prop}(h:p):Hid p:=h
theorem bdN {B:Nat}{a w:World}(h:Below B a w)(n:Nat):Below B a (w.drewN n):=h.trans ⟨rfl,rfl,rfl,Nat.le_refl _,fun _ _=>rfl⟩
/-- Two steps, the second from the first's end. -/
theorem bthen {w w1 w2:World}(h:Below w.heap.size w w1)(k:Below w1.heap.size w1 w2):Below w.heap.size w w2:=h.trans (k.mono h.size)
/-- Block g is a row of elements of type E, one cell each, with just these contents. -/
structure Row (w:World)(g:Nat)(E:TypeId)(cs:List Value):Prop where
 heap:w.heap[g]?=some (.cells cs.toArray E (0,0))
section
variable {w w':World}{g:Nat}{E:TypeId}{cs:List Value}
theorem Row.lt (h:Row w g E cs):g<w.heap.size:=(Array.getElem?_eq_some_iff.1 h.heap).1
theorem Row.cell (h:Row w g E cs)(j:Nat)(hj:j<cs.length):w.cell? ⟨g,j,none⟩=some cs[j]:=by
 rw [cell_of_row w g j _ E (0,0) h.heap]
 simp [hj]
theorem Row.cell' (h:Row w g E cs)(j:Nat):w.cell? ⟨g,j,none⟩=cs[j]?:=by
 rw [cell_of_row w g j _ E (0,0) h.heap]
 simp
theorem Row.frozen (h:Row w g E cs)(j:Nat):w.frozen? ⟨g,j,none⟩=false:=frozen_of_row w g j _ E h.heap
theorem Row.set (h:Row w g E cs)(j:Nat)(u:Value):Row (w.setCell ⟨g,j,none⟩ u) g E (cs.set j u):=by
 refine ⟨?_⟩
 rw [heap_setCell_same w g j _ E u h.heap]
 simp
theorem Row.other (h:Row w g E cs){a:Addr}(ha:g≠a.block)(u:Value):Row (w.setCell a u) g E cs:=⟨by rw [heap_setCell_other w a g u ha];exact h.heap⟩
theorem Row.below {B:Nat}(h:Row w g E cs)(hb:Below B w w')(hg:g<B):Row w' g E cs:=⟨by rw [hb.block g hg];exact h.heap⟩
theorem Row.alloc (h:Row w g E cs)(o:Obj):Row (w.alloc o) g E cs:=⟨by rw [heap_alloc_old w o h.lt];exact h.heap⟩
theorem Row.drew (h:Row w g E cs):Row w.drew g E cs:=⟨h.heap⟩
theorem Row.grown {row:Option Nat}(h:Row w g E cs)(hg:w.grownBy w' row)(hne:some g≠row):Row w' g E cs:=⟨by rw [hg.block g h.lt hne];exact h.heap⟩
theorem Row.new (w:World)(E:TypeId)(cs:List Value):Row (w.alloc (.cells cs.toArray E)) w.heap.size E cs:=⟨heap_alloc_new w _⟩
theorem Row.owns (h:Row w g E cs){base n cap:Nat}(hb:base≤g)(hc:cs.length=cap)(hn:n≤cap)(hm:cap≤maxLen):w.ownsRow base E 1 (.slice (some ⟨g,0,none⟩) n cap) n (cs.take n):=
 ⟨by simp;omega,.inr ⟨g,cap,cs.toArray,rfl,hb,h.heap,hn,hm,by simp [hc],by simp⟩⟩
theorem Row.of_owns {base n:Nat}{xs:List Value}(h:w.ownsRow base E 1 (.slice (some ⟨g,0,none⟩) n n) n xs):Row w g E xs:=by
 rcases h.2 with ⟨h',_⟩|⟨g',cap',cur,h',_,hg,_,_,hs,ht⟩
 ·simp at h'
 ·simp only [Value.slice.injEq,Option.some.injEq,Addr.mk.injEq,and_true,true_and] at h'
  obtain ⟨rfl,rfl⟩:=h'
  refine ⟨?_⟩
  rw [hg,← ht,List.take_of_length_le (by simp [hs])]
end
/-- make([]T, n) for elements of one cell: a new row of n zeros; nothing else. -/
theorem wpList_make_row {P:Program}(w:World){ops:Array Oper}{rest:List Oper}{o:Oper}{a:Act}{Q:Exit→Act→World→Prop}
 (hg:o.guard=none) (l c:Operand) (t:TypeId) (hop:o.op=Op.makeSlice t l c)
 (e:TypeId) (z:Value) (bytes:Nat) (h1:P.underlying t=some (.slice e)) (h2:(P.info? e).map (fun i=>(i.zero,i.size,i.bytes))=some (some z,1,bytes)) (hz:z.cells=#[z])
 (kl kc:IntKind) (L C:Int) (n:Nat) (hl:a.eval l=.int kl L) (hc:a.eval c=.int kc C) (hL:L=(n:Int)) (hC:C=(n:Int)) (b2:bytes*n≤281474976710656) (b3:n≤9223372036854775807)
 (hK:∀ w',Row w' w.heap.size e (List.replicate n z)→Below w.heap.size w w'→w'.heap.size>w.heap.size→wpList P ops Q rest (a.put o.dst (.slice (some ⟨w.heap.size,0,none⟩) n n)) w'):
 wpList P ops Q (o::rest) a w:=by
 obtain ⟨i,hi,hi1,hi2,hi3⟩:=info_parts h2
 refine wpList_make_full w hg l c t hop w.heap.size e i z 1 h1 hi hi1 hi2 kl kc L C n hl hc hL hC (by rw [hi3];exact b2) (by unfold maxLen;exact b3) (Nat.le_refl _) ?_
 intro w' hown hgr
 have hr:=Row.of_owns hown
 rw [hz,Nat.mul_one,toList_madeCells_one] at hr
 exact hK w' hr ((Below.refl _ w).grown hgr (Nat.le_refl _) (fun k hk=>by cases hk)) hr.lt
/-- The value of a letter. -/
def B8 (c:UInt8):Value:=.int .u8 (c.toNat:Int)
/-- A slice of bytes that lies in memory: its letters are l. -/
structure Byt (w:World)(a:Option Addr)(len:Nat)(l:List UInt8):Prop where
 hlen:l.length=len
 cell:∀ i (h:i<l.length),∃ b off,a=some ⟨b,off,none⟩∧w.cell? ⟨b,off+i,none⟩=some (.int .u8 (l[i].toNat:Int))
theorem Byt.some_of {w:World}{a:Option Addr}{len:Nat}{l:List UInt8}(h:Byt w a len l)(hl:0<l.length):
 ∃ b off,a=some ⟨b,off,none⟩∧∀ i (h:i<l.length),w.cell? ⟨b,off+i,none⟩=some (.int .u8 (l[i].toNat:Int)):=by
 obtain ⟨b,off,rfl,_⟩:=h.cell 0 hl
 refine ⟨b,off,rfl,fun i hi=>?_⟩
 obtain ⟨b',off',e,hc⟩:=h.cell i hi
 cases e
 exact hc
theorem Byt.nil (w:World)(a:Option Addr):Byt w a 0 []:=⟨rfl,fun i h=>by simp at h⟩
theorem Row.byt {w:World}{g:Nat}{E:TypeId}{l:List UInt8}{n:Nat}{rest:List Value}(h:Row w g E (l.map B8++rest))(hn:l.length=n):Byt w (some ⟨g,0,none⟩) n l:=
 ⟨hn,fun i hi=>⟨g,0,rfl,by
  rw [Nat.zero_add,h.cell i (by simp;omega),List.getElem_append_left (by simpa using hi)]
  simp [B8]⟩⟩
theorem Byt.below' {w w':World}{a:Option Addr}{len:Nat}{l:List UInt8}(h:Byt w a len l)(hb:Below w.heap.size w w'):Byt w' a len l:=
 ⟨h.hlen,fun i hi=>by
  obtain ⟨b,off,e,hc⟩:=h.cell i hi
  refine ⟨b,off,e,?_⟩
  have:=World.block_lt_of_cell? w _ hc
  rw [hb.cell this]
  exact hc⟩
theorem ret_bool {a b:Bool}(h:a=b):Ending.returned (.bool a)=.returned (.bool b):=by rw [h]
theorem ret_i64 {a b:Int}(h:a=b):Ending.returned (.int .i64 a)=.returned (.int .i64 b):=by rw [h]
/-- The first k of some contents, zeros behind. -/
def fill (cs:List Value)(z:Value)(k:Nat):List Value:=cs.take k++List.replicate (cs.length-k) z
theorem fill_zero (cs:List Value)(z:Value):fill cs z 0=List.replicate cs.length z:=by simp [fill]
theorem fill_full (cs:List Value)(z:Value):fill cs z cs.length=cs:=by simp [fill]
theorem fill_len (cs:List Value)(z:Value)(k:Nat)(h:k≤cs.length):(fill cs z k).length=cs.length:=by simp [fill];omega
theorem fill_set (cs:List Value)(z:Value)(k:Nat)(h:k<cs.length):(fill cs z k).set k cs[k]=fill cs z (k+1):=by
 unfold fill
 rw [List.set_append_right _ _ (by simp;omega)]
 obtain ⟨m,hm⟩:∃ m,cs.length-k=m+1:=⟨cs.length-k-1,by omega⟩
 have e:k-(List.take k cs).length=0:=by simp;omega
 rw [e,hm,List.replicate_succ,List.set_cons_zero,List.take_succ_eq_append_getElem h,List.append_assoc]
 have:cs.length-(k+1)=m:=by omega
 rw [this]
 rfl
theorem Row.fill {w:World}{g:Nat}{E:TypeId}{cs:List Value}{z u:Value}{k:Nat}(h:Row w g E (fill cs z k))(hk:k<cs.length)(hu:u=cs[k]):Row (w.setCell ⟨g,k,none⟩ u) g E (fill cs z (k+1)):=by
 subst hu
 rw [← fill_set cs z k hk]
 exact h.set k _
/-- Zeros up to k, the contents from there on. -/
def fillD (cs:List Value)(z:Value)(k:Nat):List Value:=List.replicate k z++cs.drop k
theorem fillD_full (cs:List Value)(z:Value):fillD cs z cs.length=List.replicate cs.length z:=by simp [fillD]
theorem fillD_zero (cs:List Value)(z:Value):fillD cs z 0=cs:=by simp [fillD]
theorem fillD_len (cs:List Value)(z:Value)(k:Nat)(h:k≤cs.length):(fillD cs z k).length=cs.length:=by simp [fillD];omega
theorem fillD_set (cs:List Value)(z:Value)(k:Nat)(h:k<cs.length):(fillD cs z (k+1)).set k cs[k]=fillD cs z k:=by
 unfold fillD
 rw [List.set_append_left _ _ (by simp),List.replicate_succ',List.set_append_right _ _ (by simp)]
 simp
theorem Row.fillD {w:World}{g:Nat}{E:TypeId}{cs:List Value}{z u:Value}{k:Nat}(h:Row w g E (fillD cs z (k+1)))(hk:k<cs.length)(hu:u=cs[k]):Row (w.setCell ⟨g,k,none⟩ u) g E (fillD cs z k):=by
 subst hu
 rw [← fillD_set cs z k hk]
 exact h.set k _
theorem map_at (l:List UInt8)(k:Nat)(h:k<l.length):Value.int .u8 (l[k].toNat:Int)=(l.map B8)[k]'(by simpa using h):=by simp [B8]
/-- copy(out, b), both of one length, out a row of the call's own: it holds what b holds. -/
theorem wpList_copy_row {P:Program}{w:World}{ops:Array Oper}{rest:List Oper}{o:Oper}{a:Act}{Q:Exit→Act→World→Prop}(hgd:o.guard=none)(d s:Operand)(dT sT:TypeId)
 (ho:o.op=.call { callee:=.builtin .copy,args:=#[d,s],argTypes:=#[dT,sT] }) (elem:TypeId) (hu:P.underlying dT=some (.slice elem)) (hsz:(P.info? elem).map (·.size)=some 1)
 (n dCap sCap:Nat) (g:Nat) (sp:Option Addr) (hd:a.eval d=.slice (some ⟨g,0,none⟩) n dCap) (hs:a.eval s=.slice sp n sCap)
 (l:List UInt8) (cur:List Value) (E:TypeId) (hg:Row w g E cur) (hcur:cur.length=n) (hsrc:Byt w sp n l) (B:Nat) (w0:World) (hb:Below B w0 w) (hBg:B≤g)
 (h:∀ w',Row w' g E (l.map B8)→Below B w0 w'→wpList P ops Q rest (a.put o.dst (goInt n)) w'):
 wpList P ops Q (o::rest) a w:=by
 have hl:=hsrc.hlen
 refine wpList_copy_splice hgd d s dT sT ho elem hu hsz (some ⟨g,0,none⟩) sp n dCap n sCap hd hs g 0 cur E hg.heap (l.map B8) (by simp [hl]) (fun hp=>⟨rfl,?_⟩) (by simp;omega) (fun v hv=>?_) B w0 hb hBg (fun w' hw' hb'=>?_)
 ·obtain ⟨b,off,rfl,hc⟩:=hsrc.some_of (by simpa using hp)
  refine ⟨_,rfl,fun j v hj=>?_⟩
  obtain ⟨hj1,rfl⟩:=List.getElem?_eq_some_iff.1 hj
  have hj2:j<l.length:=by simpa using hj1
  have:=hc j hj2
  unfold Addr.add
  by_cases e:j=0
  ·subst e;simpa [B8] using this
  ·simpa [B8,e] using this
 ·obtain ⟨c,_,rfl⟩:=List.mem_map.1 hv
  rfl
 ·have e:splice cur 0 (l.map B8)=l.map B8:=by
   unfold splice;simp;omega
  rw [e] at hw'
  have hr:Row w' g E (l.map B8):=⟨hw'.out⟩
  have:=h w' hr hb'
  simpa [hl] using this
theorem Row.four {w:World}{g:Nat}{E:TypeId}{a b c d:Value}(h:Row w g E [a,b,c,d]):w.cell? ⟨g,0,none⟩=some a∧w.cell? ⟨g,1,none⟩=some b∧w.cell? ⟨g,2,none⟩=some c∧w.cell? ⟨g,3,none⟩=some d:=
 ⟨h.cell 0 (by simp),h.cell 1 (by simp),h.cell 2 (by simp),h.cell 3 (by simp)⟩
open Go.ChangeShapes Go.WideShapes Go.ChangeAt
theorem trodAll_below {H:Type}{enc:TypeId × Value→H}{P:Program}(hl:laidOutB P=true){W W':World}(hb:Below W.heap.size W W'):
 ∀ {ts:List TypeId} {vs:List Value} {ds:List (DataW H)} {ps:List MemPlace},(∀ t∈ts,P.readableRec t=true∧t<P.types.size)→DataW.TrodAll enc P W 0 (fun _=>true) true ts vs ds ps→(∀ x∈ps,x.block<W.heap.size)→
  DataW.TrodAll enc P W' 0 (fun b=>decide (b<W.heap.size)) true ts vs ds ps
 | [],_,_,_,_,h,_=>by
  obtain ⟨rfl,rfl,rfl⟩:=trodAll_nil h
  exact trodAll_mk0
 | t::ts,_,_,_,ht,h,hp=>by
  obtain ⟨v,vs1,d,ds1,a,b,rfl,rfl,rfl,h1,h2⟩:=trodAll_cons h
  exact trodAll_cons_mk (Below.trod hl (ht t (List.mem_cons_self ..)).1 (ht t (List.mem_cons_self ..)).2 h1 hb (fun x hx=>hp x (List.mem_append_left _ hx)))
   (trodAll_below hl hb (fun u hu=>ht u (List.mem_cons_of_mem _ hu)) h2 (fun x hx=>hp x (List.mem_append_right _ hx)))
theorem trodAll_length {H:Type}{enc:TypeId × Value→H}{P:Program}{W:World}:∀ {ts:List TypeId} {vs:List Value} {ds:List (DataW H)} {ps:List MemPlace},DataW.TrodAll enc P W 0 (fun _=>true) true ts vs ds ps→ds.length=ts.length
 | [],_,_,_,h=>by obtain ⟨rfl,rfl,rfl⟩:=trodAll_nil h;rfl
 | t::ts,_,_,_,h=>by
  obtain ⟨v,vs1,d,ds1,a,b,rfl,rfl,rfl,h1,h2⟩:=trodAll_cons h
  simp [trodAll_length h2]
/-- The row's contract out of a walk. -/
theorem law_contract {C:Checked}{f:FuncId}{fn:Func}{s:ChangeSpec}{H:Type}{enc:TypeId × Value→H}{tb:TypeId}(hl:laidOutB C.prog=true)
 (hvars:s.vars=[]) (hres:fn.resultTypes=#[tb]) (hb:C.prog.underlying tb=some .bool)
 (hfn:∀ ds:List (DataW H),ds.length=fn.params.toList.length→s.fn H ds={ results:=[.lit (.bool true)],args:=ds })
 (hr:(fn.params.toList.all fun t=>C.prog.readableRec t&&decide (t<C.prog.types.size))=true)
 {W:World} {args:Array Value} {ds gs:List (DataW H)} {before:List MemPlace} (hW:DataW.Whole enc C.prog fn.params.toList s.vars false W args.toList ds gs before)
 (hcall:Calls C.prog f args W fun e W'=>e=.returned (.bool true)∧Below W.heap.size W W'):
 Calls C.prog f args W fun e W'=>∃ v,e=.returned v∧s.post enc C.prog fn false true false false W args v W':=by
 refine hcall.mono fun e W' ⟨he,hbel⟩=>⟨_,he,?_⟩
 have hW0:=hW
 obtain ⟨p,q,hA,hV,hpq,hfz,hnd⟩:=hW
 rw [hvars] at hV
 obtain ⟨rfl,rfl⟩:=trodVars_none hV
 have hlen:=trodAll_length hA
 have e1:s.fn H (ds++[])={ results:=[.lit (.bool true)],args:=ds }:=by rw [List.append_nil];exact hfn ds hlen
 have hrd:∀ t∈fn.params.toList,C.prog.readableRec t=true∧t<C.prog.types.size:=fun t ht=>by
  have:=List.all_eq_true.1 hr t ht
  simpa [Bool.and_eq_true] using this
 refine ⟨ds,[],before,[],p,[],hW0,?_,?_,?_,hbel.frame _,fun h=>by cases h⟩
 ·rw [e1,hres]
  exact trodAll_mk1 (shut_bool hb true)
 ·rw [e1]
  exact trodAll_below hl hbel hrd hA (fun x hx=>hW0.lt x (by rw [hpq];simpa using hx))
 ·rw [hvars,e1]
  rfl
/-- A slice of integers that lies in memory: its numbers are l. -/
structure Nums (w:World)(k:IntKind)(a:Option Addr)(len:Nat)(l:List Int):Prop where
 hlen:l.length=len
 cell:∀ i (h:i<l.length),∃ b off,a=some ⟨b,off,none⟩∧w.cell? ⟨b,off+i,none⟩=some (.int k l[i])
theorem Nums.some_of {w:World}{k:IntKind}{a:Option Addr}{len:Nat}{l:List Int}(h:Nums w k a len l)(hl:0<l.length):
 ∃ b off,a=some ⟨b,off,none⟩∧∀ i (h:i<l.length),w.cell? ⟨b,off+i,none⟩=some (.int k l[i]):=by
 obtain ⟨b,off,rfl,_⟩:=h.cell 0 hl
 refine ⟨b,off,rfl,fun i hi=>?_⟩
 obtain ⟨b',off',e,hc⟩:=h.cell i hi
 cases e
 exact hc
theorem Nums.nil (w:World)(k:IntKind)(a:Option Addr):Nums w k a 0 []:=⟨rfl,fun i h=>by simp at h⟩
theorem Nums.below' {w w':World}{k:IntKind}{a:Option Addr}{len:Nat}{l:List Int}(h:Nums w k a len l)(hb:Below w.heap.size w w'):Nums w' k a len l:=
 ⟨h.hlen,fun i hi=>by
  obtain ⟨b,off,e,hc⟩:=h.cell i hi
  refine ⟨b,off,e,?_⟩
  have:=World.block_lt_of_cell? w _ hc
  rw [hb.cell this]
  exact hc⟩
theorem own_nums {w:World}{base n:Nat}{E:TypeId}{k:IntKind}{v:Value}{l:List Int}(h:w.ownsRow base E 1 v n (l.map (Value.int k))):∃ a cap,v=.slice a n cap∧Nums w k a n l:=by
 have hl:l.length=n:=by have:=h.1;simpa using this
 rcases h.2 with ⟨rfl,h0⟩|⟨g,cap,cur,rfl,hb,hg,hnc,hcm,hcs,htake⟩
 ·subst h0
  obtain rfl:=List.length_eq_zero_iff.1 hl
  exact ⟨none,0,rfl,Nums.nil _ _ _⟩
 ·refine ⟨some ⟨g,0,none⟩,cap,rfl,⟨hl,fun i hi=>⟨g,0,rfl,?_⟩⟩⟩
  have hc:=h.cellAt i (by omega)
  rw [Nat.zero_add,hc]
  simp [hi]
theorem Nums.news {w:World}{k:IntKind}{ad:Addr}{len:Nat}{l:List Int}(h:Nums w k (some ad) len l):∀ j u,(l.map (Value.int k))[j]?=some u→w.cell? (ad.add j)=some u:=by
 intro j u hj
 obtain ⟨hj1,rfl⟩:=List.getElem?_eq_some_iff.1 hj
 have hj2:j<l.length:=by simpa using hj1
 obtain ⟨b,off,e,hc⟩:=h.cell j hj2
 cases e
 unfold Addr.add
 by_cases e0:j=0
 ·subst e0;simpa using hc
 ·simpa [e0] using hc
theorem nums_one (k:IntKind)(l:List Int):∀ u∈l.map (Value.int k),u.oneCell'=true:=by
 intro u hu
 obtain ⟨x,_,rfl⟩:=List.mem_map.1 hu
 rfl
theorem bal {w:World}(o:Obj):Below w.heap.size w (w.alloc o):=(Below.refl _ w).alloc (Nat.le_refl _) o
/-- A cell that is there stays. -/
theorem keepC {w w':World}{a:Addr}{v:Value}(hb:Below w.heap.size w w')(h:w.cell? a=some v):w'.cell? a=some v:=(hb.cell (World.block_lt_of_cell? w _ h)).trans h
theorem bdl {w w':World}(h:Below w.drew.heap.size w.drew w'):Below w.heap.size w w':=⟨h.os,h.tape,h.output,h.size,h.block⟩
end Go.Proofs.YtdjpjfdeeelijaaGreatDoor
namespace Go.Proofs.YtdjpjfdeeelijaaGreatDoor
open Go.RowKit
theorem own_ext {w:World}{base e size n n':Nat}{v:Value}{xs xs':List Value}(h:w.ownsRow base e size v n xs)(hn:n=n')(hx:xs=xs'):w.ownsRow base e size v n' xs':=by
 subst hn;subst hx;exact h
theorem own_from {w:World}{base base' e size n:Nat}{v:Value}{xs:List Value}(h:w.ownsRow base e size v n xs)(hb:base'≤base):w.ownsRow base' e size v n xs:=by
 refine ⟨h.1,?_⟩
 rcases h.2 with hn|⟨g,cap,cur,hv,hbg,r⟩
 ·exact .inl hn
 ·exact .inr ⟨g,cap,cur,hv,Nat.le_trans hb hbg,r⟩
/-- A store into a block of one's own. -/
theorem bset {w w':World}{B:Nat}(h:Below B w w'){b o:Nat}(hb:B≤b)(u:Value):Below B w (w'.setCell ⟨b,o,none⟩ u):=h.setCell (p:=⟨b,o,none⟩) hb u
theorem own_block {w:World}{base e size n:Nat}{v:Value}{xs:List Value}(h:w.ownsRow base e size v n xs):v.ownBlock=none∨∃ g,v.ownBlock=some g∧base≤g∧g<w.heap.size:=by
 rcases h.2 with ⟨h1,_⟩|⟨g,cap,cur,rfl,hb,hg,_⟩
 ·rw [h1];exact .inl rfl
 ·exact .inr ⟨g,rfl,hb,(Array.getElem?_eq_some_iff.1 hg).1⟩
theorem own_ne {w:World}{base e size n:Nat}{v:Value}{xs:List Value}(h:w.ownsRow base e size v n xs){b:Nat}(hb:b<base∨w.heap.size≤b):some b≠v.ownBlock:=by
 rcases own_block h with h1|⟨g,h1,h2,h3⟩
 ·rw [h1];simp
 ·rw [h1];intro e;cases e;omega
theorem own_low {w:World}{base e size n B:Nat}{v:Value}{xs:List Value}(h:w.ownsRow base e size v n xs)(hb:B≤base)(k:Nat)(hk:v.ownBlock=some k):B≤k:=by
 rcases own_block h with h1|⟨g,h1,h2,h3⟩
 ·rw [h1] at hk;cases hk
 ·rw [h1] at hk;cases hk;omega
theorem own_open {w:World}{base e n:Nat}{v:Value}{xs:List Value}(h:w.ownsRow base e 1 v n xs)(hn:0<n):∃ G c,v=.slice (some ⟨G,0,none⟩) n c∧n≤c∧base≤G∧G<w.heap.size∧c≤maxLen:=by
 rcases h.2 with ⟨_,h0⟩|⟨g,cap,cur,rfl,hb,hg,hnc,hm,_⟩
 ·omega
 ·exact ⟨g,cap,rfl,hnc,hb,(Array.getElem?_eq_some_iff.1 hg).1,hm⟩
theorem own_setOther {w:World}{base e size n:Nat}{v:Value}{xs:List Value}(h:w.ownsRow base e size v n xs){b o:Nat}(hne:some b≠v.ownBlock)(u:Value):(w.setCell ⟨b,o,none⟩ u).ownsRow base e size v n xs:=by
 refine ⟨h.1,?_⟩
 rcases h.2 with hn|⟨g,cap,cur,hv,hb,hg,r⟩
 ·exact .inl hn
 ·refine .inr ⟨g,cap,cur,hv,hb,?_,r⟩
  have hgb:g≠b:=by rintro rfl;rw [hv] at hne;exact hne rfl
  rw [heap_setCell_other w _ g u (by simpa using hgb)]
  exact hg
/-- A block of another type is not the slice's. -/
theorem own_row_ne {w:World}{base e n b T:Nat}{v:Value}{xs cs:List Value}(h:w.ownsRow base e 1 v n xs)(hr:Row w b T cs)(hT:T≠e):some b≠v.ownBlock:=by
 rcases h.2 with ⟨h1,_⟩|⟨g,cap,cur,rfl,hb,hg,_⟩
 ·rw [h1];exact fun e=>by cases e
 ·intro e1
  simp only [Value.ownBlock,Option.some.injEq] at e1
  subst e1
  have:=hr.heap
  rw [hg] at this
  simp at this
  exact hT this.2.symm
theorem own_below {w w':World}{base e size n:Nat}{v:Value}{xs:List Value}(h:w.ownsRow base e size v n xs)(hb:Below w.heap.size w w'):w'.ownsRow base e size v n xs:=by
 refine ⟨h.1,?_⟩
 rcases h.2 with hn|⟨g,cap,cur,hv,hbg,hg,r⟩
 ·exact .inl hn
 ·exact .inr ⟨g,cap,cur,hv,hbg,by rw [hb.block g (Array.getElem?_eq_some_iff.1 hg).1];exact hg,r⟩
theorem ones_one (k:IntKind)(x:Int):∀ u∈[Value.int k x],u.oneCell'=true:=nums_one k [x]
theorem news_one (w:World)(v:Value)(T:TypeId):∀ j u,[v][j]?=some u→(w.alloc (.cells #[v] T)).cell? ((Addr.mk w.heap.size 0 none).add j)=some u:=by
 intro j u hj
 match j,hj with
 | 0,hj=>
  have hj':v=u:=by simpa using hj
  subst hj'
  exact (Row.new w T [v]).cell 0 (by simp)
open Go.ChangeShapes Go.WideShapes Go.ChangeAt Go.Sort
structure Cel (w:World)(a:Option Addr)(len:Nat)(cs:List Value):Prop where
 hlen:cs.length=len
 cell:∀ i (h:i<cs.length),∃ b off,a=some ⟨b,off,none⟩∧w.cell? ⟨b,off+i,none⟩=some cs[i]
theorem Cel.some_of {w:World}{a:Option Addr}{len:Nat}{cs:List Value}(h:Cel w a len cs)(hl:0<cs.length):
 ∃ b off,a=some ⟨b,off,none⟩∧∀ i (h:i<cs.length),w.cell? ⟨b,off+i,none⟩=some cs[i]:=by
 obtain ⟨b,off,rfl,_⟩:=h.cell 0 hl
 refine ⟨b,off,rfl,fun i hi=>?_⟩
 obtain ⟨b',off',e,hc⟩:=h.cell i hi
 cases e
 exact hc
theorem Cel.nil (w:World)(a:Option Addr):Cel w a 0 []:=⟨rfl,fun i h=>by simp at h⟩
theorem Cel.below' {w w':World}{a:Option Addr}{len:Nat}{cs:List Value}(h:Cel w a len cs)(hb:Below w.heap.size w w'):Cel w' a len cs:=
 ⟨h.hlen,fun i hi=>by
  obtain ⟨b,off,e,hc⟩:=h.cell i hi
  exact ⟨b,off,e,keepC hb hc⟩⟩
theorem Cel.news {w:World}{ad:Addr}{len:Nat}{cs:List Value}(h:Cel w (some ad) len cs):∀ j u,cs[j]?=some u→w.cell? (ad.add j)=some u:=by
 intro j u hj
 obtain ⟨hj1,rfl⟩:=List.getElem?_eq_some_iff.1 hj
 obtain ⟨b,off,e,hc⟩:=h.cell j hj1
 cases e
 unfold Addr.add
 by_cases e0:j=0
 ·subst e0;simpa using hc
 ·simpa [e0] using hc
theorem Cel.prefix {w:World}{a:Option Addr}{len n:Nat}{cs:List Value}(h:Cel w a len cs)(hn:n≤len):Cel w a n (cs.take n):=
 ⟨by have:=h.hlen;simp;omega,fun i hi=>by
  have hi':i<cs.length:=by simp at hi;omega
  obtain ⟨b,off,e,hc⟩:=h.cell i hi'
  exact ⟨b,off,e,by rw [hc];simp⟩⟩
theorem own_cel {w:World}{base n:Nat}{E:TypeId}{v:Value}{cs:List Value}(h:w.ownsRow base E 1 v n cs):∃ a cap,v=.slice a n cap∧Cel w a n cs∧(a=none→cap=0)∧n≤cap∧cap≤maxLen:=by
 have hl:cs.length=n:=by have:=h.1;simpa using this
 rcases h.2 with ⟨rfl,h0⟩|⟨g,cap,cur,rfl,hb,hg,hnc,hcm,hcs,htake⟩
 ·subst h0
  obtain rfl:=List.length_eq_zero_iff.1 hl
  exact ⟨none,0,rfl,Cel.nil _ _,fun _=>rfl,Nat.le_refl _,by simp [maxLen]⟩
 ·refine ⟨some ⟨g,0,none⟩,cap,rfl,⟨hl,fun i hi=>⟨g,0,rfl,?_⟩⟩,(fun h=>by cases h),hnc,hcm⟩
  have hc:=h.cellAt i (by omega)
  rw [Nat.zero_add,hc]
  simp [hi]
/-- The same, with the block. -/
theorem own_cel2 {w:World}{base n:Nat}{E:TypeId}{v:Value}{cs:List Value}(h:w.ownsRow base E 1 v n cs):∃ a cap,v=.slice a n cap∧Cel w a n cs∧(a=none→cap=0∧n=0)∧n≤cap∧cap≤maxLen∧∀ b,a=some b→∃ G,b=⟨G,0,none⟩∧base≤G∧G<w.heap.size:=by
 have hl:cs.length=n:=by have:=h.1;simpa using this
 rcases h.2 with ⟨rfl,h0⟩|⟨g,cap,cur,rfl,hb,hg,hnc,hcm,hcs,htake⟩
 ·subst h0
  obtain rfl:=List.length_eq_zero_iff.1 hl
  exact ⟨none,0,rfl,Cel.nil _ _,fun _=>⟨rfl,rfl⟩,Nat.le_refl _,by simp [maxLen],fun b h=>by cases h⟩
 ·refine ⟨some ⟨g,0,none⟩,cap,rfl,⟨hl,fun i hi=>⟨g,0,rfl,?_⟩⟩,(fun h=>by cases h),hnc,hcm,fun b hb'=>?_⟩
  ·have hc:=h.cellAt i (by omega)
   rw [Nat.zero_add,hc]
   simp [hi]
  ·cases hb'
   exact ⟨g,rfl,hb,(Array.getElem?_eq_some_iff.1 hg).1⟩
/-- A slice's own block is none where it is nil or empty of block. -/
theorem own_nil_of {w:World}{base:Nat}{E:TypeId}:w.ownsRow base E 1 (.slice none 0 0) 0 []:=World.ownsRow_nil _ _ _ _
/-- A world behind W, of which nothing that was there has turned. -/
def St (W w:World):Prop:=Below W.heap.size W w
theorem St.drew (W:World):St W W.drew:=(Below.refl _ W).drew
theorem St.step {W w w':World}(h:St W w)(hb:Below w.heap.size w w'):St W w':=bthen h hb
theorem St.cell {W w:World}{a:Addr}{v:Value}(h:W.cell? a=some v)(hs:St W w):w.cell? a=some v:=keepC hs h
end Go.Proofs.YtdjpjfdeeelijaaGreatDoor
namespace Go.Proofs.YtdjpjfdeeelijaaGreatDoor
open Go.RowKit
/-- The iterator at block g moved on. -/
def mvIter (w:World)(g:Nat)(s:ByteArray)(p:Nat):World:={ w with heap:=w.heap.setIfInBounds g (.stringIter s p) }
theorem mvIter_at {w:World}{g:Nat}{s:ByteArray}{p:Nat}(q:Nat)(h:w.heap[g]?=some (.stringIter s p)):(mvIter w g s q).heap[g]?=some (.stringIter s q):=by
 have:=(Array.getElem?_eq_some_iff.1 h).1
 simp [mvIter,this]
theorem mvIter_other {w:World}{g b:Nat}{s:ByteArray}{q:Nat}(h:b≠g):(mvIter w g s q).heap[b]?=w.heap[b]?:=by
 simp [mvIter,Array.getElem?_setIfInBounds_ne (Ne.symm h)]
theorem mvIter_size (w:World)(g:Nat)(s:ByteArray)(q:Nat):(mvIter w g s q).heap.size=w.heap.size:=by simp [mvIter]
theorem mvIter_below {w w':World}{B g:Nat}{s:ByteArray}(h:Below B w w')(hB:B≤g)(q:Nat):Below B w (mvIter w' g s q):=
 ⟨h.os,h.tape,h.output,by rw [mvIter_size];exact h.size,fun k hk=>by rw [mvIter_other (by omega)];exact h.block k hk⟩
theorem mvIter_row {w:World}{g b:Nat}{s:ByteArray}{p:Nat}{T:TypeId}{cs:List Value}(h:Row w b T cs)(hg:w.heap[g]?=some (.stringIter s p))(q:Nat):Row (mvIter w g s q) b T cs:=
 ⟨by rw [mvIter_other (by rintro rfl;rw [h.heap] at hg;cases hg)];exact h.heap⟩
theorem mvIter_own {w:World}{g base e size n:Nat}{s:ByteArray}{p:Nat}{v:Value}{xs:List Value}(h:w.ownsRow base e size v n xs)(hg:w.heap[g]?=some (.stringIter s p))(q:Nat):(mvIter w g s q).ownsRow base e size v n xs:=by
 refine ⟨h.1,?_⟩
 rcases h.2 with hn|⟨b,cap,cur,hv,hbg,hb,r⟩
 ·exact .inl hn
 ·exact .inr ⟨b,cap,cur,hv,hbg,by rw [mvIter_other (by rintro rfl;rw [hb] at hg;cases hg)];exact hb,r⟩
theorem run_next_at {P:Program}{w:World}{g:Nat}{s:ByteArray}{pos:Nat}(ty:TypeId)(hg:w.heap[g]?=some (.stringIter s pos))(h:pos<s.size):
 (Instr.next (.pointer (some ⟨g,0,none⟩)) true ty).run P w=.ok (.tuple #[.bool true,.int .i64 pos,.int .i32 (Utf8.decode s pos).1]) (mvIter w g s (pos+(Utf8.decode s pos).2)):=by
 simp only [Instr.next,getObj,setObj,Sem.run_bind,Sem.run,hg,Result.andThen,h,if_true]
 simp [goInt,mvIter]
theorem run_next_no {P:Program}{w:World}{g:Nat}{s:ByteArray}{pos:Nat}(ty:TypeId)(hg:w.heap[g]?=some (.stringIter s pos))(h:¬ pos<s.size):
 (Instr.next (.pointer (some ⟨g,0,none⟩)) true ty).run P w=.ok (.tuple #[.bool false]) w:=by
 simp [Instr.next,getObj,Sem.run,hg,h]
theorem cont_ne (c:UInt8)(h:c.toNat/64=2):c≠47:=by
 rintro rfl
 revert h
 decide
theorem get_at' (s:ByteArray)(j:Nat)(h:j<s.size):s.get! j=s[j]'h:=by
 simp [ByteArray.get!,getElem!_pos,h]
 rfl
/-- What the next rune says of slashes. -/
theorem decode_47 (s:ByteArray)(k:Nat)(h:k<s.size):
 (s[k]=47∧(Utf8.decode s k).1=47∧(Utf8.decode s k).2=1)∨((Utf8.decode s k).1≠47∧1≤(Utf8.decode s k).2∧k+(Utf8.decode s k).2≤s.size∧∀ j (hj:j<s.size),k≤j→j<k+(Utf8.decode s k).2→s[j]≠47):=by
 by_cases ha:(s[k]'h).toNat<128
 ·rw [decode_ascii s k h ha]
  by_cases h47:s[k]=47
  ·left;rw [h47];exact ⟨rfl,rfl,rfl⟩
  ·right
   refine ⟨?_,by omega,by simp only [];omega,fun j hj h1 h2=>?_⟩
   ·intro e
    apply h47
    apply UInt8.toNat_inj.1
    simpa using e
   ·simp only [] at h2
    obtain rfl:j=k:=by omega
    exact h47
 ·right
  have ha':128≤(s[k]'h).toNat:=by omega
  have hd:=decode_high s k h ha'
  have hk47:s[k]≠47:=by intro e;rw [e] at ha';revert ha';decide
  refine ⟨by omega,hd.2,?_⟩
  have key:∀ n,((Utf8.decode s k).2=n)→(∀ i,1≤i→i<n→k+i<s.size∧(s.get! (k+i)).toNat/64=2)→k+(Utf8.decode s k).2≤s.size∧∀ j (hj:j<s.size),k≤j→j<k+(Utf8.decode s k).2→s[j]≠47:=by
   intro n hn hi
   rw [hn]
   constructor
   ·by_cases h1:n≤1
    ·omega
    ·have:=(hi (n-1) (by omega) (by omega)).1;omega
   ·intro j hj h1 h2
    by_cases e:j=k
    ·subst e;exact hk47
    ·have:=(hi (j-k) (by omega) (by omega)).2
     rw [show k+(j-k)=j by omega,get_at' s j hj] at this
     exact cont_ne _ this
  have hn:¬ (s[k]'h).toNat<128:=by omega
  have gk:s.get! (k+0)=s[k]'h:=get_at s k h
  have two:∀ i n,1≤i→i<n→n≤2→i=1:=by intros;omega
  have three:∀ i n,1≤i→i<n→n≤3→i=1∨i=2:=by intros;omega
  have four:∀ i n,1≤i→i<n→n≤4→i=1∨i=2∨i=3:=by intros;omega
  have one:∀ i,1≤i→i<1→False:=by intros;omega
  refine key _ rfl ?_
  unfold Utf8.decode
  simp only [gk,hn,if_false]
  split
  ·rename_i hc
   simp only [Bool.and_eq_true,beq_iff_eq,decide_eq_true_eq] at hc
   split
   ·intro i h1 h2
    obtain rfl:=two i 2 h1 h2 (by omega)
    exact hc.2
   ·intro i h1 h2;exact (one i h1 h2).elim
  ·split
   ·rename_i hc
    simp only [Bool.and_eq_true,beq_iff_eq,decide_eq_true_eq] at hc
    split
    ·intro i h1 h2
     rcases three i 3 h1 h2 (by omega) with rfl|rfl
     ·exact hc.1.2
     ·exact hc.2
    ·intro i h1 h2;exact (one i h1 h2).elim
   ·split
    ·rename_i hc
     simp only [Bool.and_eq_true,beq_iff_eq,decide_eq_true_eq] at hc
     split
     ·intro i h1 h2
      rcases four i 4 h1 h2 (by omega) with rfl|rfl|rfl
      ·exact hc.1.1.2
      ·exact hc.1.2
      ·exact hc.2
     ·intro i h1 h2;exact (one i h1 h2).elim
    ·intro i h1 h2;exact (one i h1 h2).elim
/-! Texts cut at a byte: what is done, and the piece at hand. -/
def cstep (x:UInt8)(st:List (List UInt8) × List UInt8)(c:UInt8):List (List UInt8) × List UInt8:=if c=x then (st.1++[st.2],[]) else (st.1,st.2++[c])
def cst (x:UInt8)(l:List UInt8):List (List UInt8) × List UInt8:=l.foldl (cstep x) ([],[])
def cuts (x:UInt8)(l:List UInt8):List (List UInt8):=(cst x l).1++[(cst x l).2]
theorem cst_snoc (x:UInt8)(l:List UInt8)(c:UInt8):cst x (l++[c])=cstep x (cst x l) c:=by simp [cst,List.foldl_append]
theorem cst_hit (x:UInt8)(l:List UInt8):cst x (l++[x])=((cst x l).1++[(cst x l).2],[]):=by rw [cst_snoc];simp [cstep]
theorem cst_miss (x:UInt8)(l m:List UInt8)(h:∀ c∈m,c≠x):cst x (l++m)=((cst x l).1,(cst x l).2++m):=by
 induction m generalizing l with
 | nil=>simp
 | cons c m ih=>
  have e:l++c::m=(l++[c])++m:=by simp
  rw [e,ih _ (fun d hd=>h d (List.mem_cons_of_mem _ hd)),cst_snoc]
  have:cstep x (cst x l) c=((cst x l).1,(cst x l).2++[c]):=by unfold cstep;rw [if_neg (h c (List.mem_cons_self ..))]
  rw [this]
  simp
theorem cst_nil (x:UInt8):cst x []=([],[]):=rfl
/-- The text of some letters. -/
def ba (l:List UInt8):ByteArray:=⟨l.toArray⟩
theorem ba_list (l:List UInt8):(ba l).data.toList=l:=rfl
theorem ba_size (l:List UInt8):(ba l).size=l.length:=by show l.toArray.size=_;simp
theorem size_list (s:ByteArray):s.data.toList.length=s.size:=by simp
theorem ba_extract (s:ByteArray)(i j:Nat):s.extract i j=ba ((s.data.toList.take j).drop i):=by
 apply ByteArray.ext
 apply Array.ext'
 show (s.extract i j).data.toList=_
 rw [ByteArray.data_extract]
 simp [ba,List.extract_eq_take_drop,List.drop_take]
end Go.Proofs.YtdjpjfdeeelijaaGreatDoor
