/- A region that draws its order and ends in a store into a cell that it loads: a condition on the world that holds behind each operation but the last. No program is named. append to a list of the call's own, elements of one cell or of k cells, of any type. No program is named. -/
import Derived.Test.YtdjpjfdeeelijaaGreatDoorKA
import Derived.StillTail
import Derived.Deep.RegionHeld3
import Derived.Deep.AppendLies
import Derived.Test.YtdjpjfdeeelijaaGreatDoorW04
import Derived.Laws.AppendOwnNone
namespace Go.Proofs.YtdjpjfdeeelijaaGreatDoor
open Go.RowKit Go.Sort
section
variable {P:Program}{ops:Array Oper}{Q:Exit→Act→World→Prop}{md:Region.Mode}{S:World→Prop}{n:Nat}
/-- In whatever order; S holds behind each operation ahead of number n. -/
def wpSk (P:Program)(md:Region.Mode)(ops:Array Oper)(Q:Exit→Act→World→Prop)(S:World→Prop)(n:Nat):Nat→Array Bool→Act→World→Prop
 | 0,l,a,w=>Region.ready md ops l=[]∧Q .normal a w
 | f+1,l,a,w=>(Region.ready md ops l=[]→Q .normal a w)∧∀ i∈Region.ready md ops l,wpOp P ops Q i (fun a' w'=>(i<n→S w')∧wpSk P md ops Q S n f (l.setIfInBounds i true) a' w') a w
theorem any_of_sk:∀ (f:Nat) (l:Array Bool) (a:Act) (w:World),wpSk P md ops Q S n f l a w→wpAny P md ops Q f l a w
 | 0,_,_,_,h=>h
 | f+1,_,_,_,h=>⟨h.1,fun i hi=>wpOp_mono (fun a' w' k=>any_of_sk f _ a' w' k.2) (h.2 i hi)⟩
theorem sk_first {i:Nat}{oi:Oper}{v:Value}(hi:ops[i]?=some oi)(hsel:Region.noSelect ops=true)(hQ:∀ c a w,Q (.panic c) (a.put oi.dst v) w→Q (.panic c) a w)
 (hs:Region.sinkB md ops n=true) (hc:Region.chainB md ops n=true) (hn:n<ops.size) (hin:i<n):
 ∀ (f:Nat) (l:Array Bool) (a:Act) (w:World),HeadInv md ops n l→(∀ j oj,ops[j]?=some oj→j≠i→l.getD j true=false→(∀ e∈oj.after,Region.binds md e=true→e.on≠i)→oi.apart ops oj=true)→
  i∈Region.ready md ops l→YieldsIf P ops S oi v a→S w→wpSk P md ops Q S n f (l.setIfInBounds i true) (a.put oi.dst v) w→wpSk P md ops Q S n (f+1) l a w:=by
 have hsel':=Region.noSelect_spec hsel
 intro f
 induction f with
 | zero=>
  intro l a w _ _ hr hy hS H
  refine ⟨fun h=>(by rw [h] at hr;cases hr),fun j hj=>?_⟩
  by_cases e:j=i
  ·subst e;exact hy.wpOp hi hS ⟨fun _=>hS,H⟩
  ·have k:=ready_mono hj e
   rw [H.1] at k
   cases k
 | succ f ih=>
  intro l a w inv hfree hr hy hS H
  have hun:=(mem_ready.1 hr).1
  refine ⟨fun h=>(by rw [h] at hr;cases hr),fun j hj=>?_⟩
  have hjn:j<n:=by
   rcases Nat.lt_or_ge j n with h|h
   ·exact h
   ·exact absurd hj (tail_waits hs hc hn inv _ i rfl hin hun j h)
  by_cases e:j=i
  ·subst e;exact hy.wpOp hi hS ⟨fun _=>hS,H⟩
  ·obtain ⟨hjun,oj,hoj,hall⟩:=mem_ready.1 hj
   have hnot:∀ e∈oj.after,Region.binds md e=true→e.on≠i:=fun e he hb q=>by
    have k:=hall e he hb
    rw [q,getD_both hun] at k
    cases k
   have h2:=wpOp_putIf hoj (hfree j oj hoj e hjun hnot) (fun cs b=>hsel' i oi cs b hi) (fun cs b=>hsel' j oj cs b hoj) hQ hy (H.2 j (ready_mono hj e))
   refine wpOp_mono (fun a' w' k=>⟨k.2.1,ih _ a' w' (inv.set hj hjn) (fun m om hm hmi hum hno=>?_) (ready_mono hr (Ne.symm e)) k.1 (k.2.1 hjn) ?_⟩) h2
   ·refine hfree m om hm hmi ?_ hno
    by_cases q:j=m
    ·subst q;exact hjun
    ·rw [getD_set_ne true q] at hum;exact hum
   ·rw [Array.setIfInBounds_comm _ _ e]
    exact k.2.2
theorem sk_take {i:Nat}{oi:Oper}{v:Value}{f:Nat}{l:Array Bool}{a:Act}{w:World}(t:Option Tmp)(hi:ops[i]?=some oi)(ht:oi.dst=t)(hsel:Region.noSelect ops=true)(hB:(Region.sinkB md ops n&&Region.chainB md ops n)=true)(hn:n<ops.size)(hin:i<n)
 (inv:HeadInv md ops n l) (hf:Region.free md ops l i=true) (hr:(Region.ready md ops l).contains i=true) (hQ:∀ c a w,Q (.panic c) (a.put t v) w→Q (.panic c) a w) (hy:YieldsIf P ops S oi v a) (hS:S w)
 (h:HeadInv md ops n (l.setIfInBounds i true)→wpSk P md ops Q S n f (l.setIfInBounds i true) (a.put t v) w):wpSk P md ops Q S n (f+1) l a w:=by
 subst ht
 rw [Bool.and_eq_true] at hB
 have hr':i∈Region.ready md ops l:=by simpa using hr
 exact sk_first hi hsel hQ hB.1 hB.2 hn hin f l a w inv (Region.free_spec hi hf) hr' hy hS (h (inv.set hr' hin))
/-- Just one may come up. -/
theorem sk_one {i:Nat}{o:Oper}{f:Nat}{l:Array Bool}{a:Act}{w:World}(hr:Region.ready md ops l=[i])(ho:ops[i]?=some o)(inv:HeadInv md ops n l)
 (h:∀ K:Act→World→Prop,Shut (∀ a w,(i<n→S w)→((i<n→HeadInv md ops n (l.setIfInBounds i true))→wpSk P md ops Q S n f (l.setIfInBounds i true) a w)→K a w)→if Region.wanted o (yielded ops a.tmps)=true then Oper.wp P o a w K Q else K (a.put o.dst undef) w):
 wpSk P md ops Q S n (f+1) l a w:=by
 refine ⟨fun h0=>(by rw [hr] at h0;cases h0),fun j hj=>?_⟩
 have hj':=hj
 rw [hr,List.mem_singleton] at hj'
 subst hj'
 exact wpOp_step ho (fun K hK=>h K (fun a w hS hW=>hK a w ⟨hS,hW (fun hlt=>inv.set hj hlt)⟩))
theorem sk_done {l:Array Bool}{a:Act}{w:World}(hr:Region.ready md ops l=[])(h:Q .normal a w):∀ f,wpSk P md ops Q S n f l a w
 | 0=>⟨hr,h⟩
 | _+1=>⟨fun _=>h,by rw [hr];simp⟩
theorem region_sk (n:Nat)(S:World→Prop){id:Nat}{a:Act}{w:World}(hm:P.follows .mixedOrders=true)
 (h:HeadInv .any ops n (Array.replicate ops.size false)→wpSk P .any ops Q S n ops.size (Array.replicate ops.size false) a w.drew):(Code.region id ops true).wp P Q a w:=
 wp_region_any hm (any_of_sk _ _ _ _ (h ⟨by simp,fun j oj _ hl=>(by rw [getD_replicate_false] at hl;cases hl),fun t _ ht=>getD_in (by simpa using ht) (getD_replicate_false _ _)⟩))
end
/-- All blocks of W stand but two; the cell of one of these holds A. -/
structure StG (W:World)(G:Nat)(ob:Option Nat)(A:Value)(w:World):Prop where
 size:W.heap.size≤w.heap.size
 keep:∀ b,b<W.heap.size→b≠G→some b≠ob→w.heap[b]?=W.heap[b]?
 cell:w.cell? ⟨G,0,none⟩=some A
theorem StG.of {W:World}{G:Nat}{ob:Option Nat}{A:Value}{w:World}(h:Below W.heap.size W w)(hc:W.cell? ⟨G,0,none⟩=some A):StG W G ob A w:=⟨h.size,fun b hb _ _=>h.block b hb,keepC h hc⟩
theorem StG.step {W:World}{G:Nat}{ob:Option Nat}{A:Value}{w w':World}(h:StG W G ob A w)(hb:Below w.heap.size w w'):StG W G ob A w':=
 ⟨Nat.le_trans h.size hb.size,fun b h1 h2 h3=>by rw [hb.block b (Nat.lt_of_lt_of_le h1 h.size),h.keep b h1 h2 h3],keepC hb h.cell⟩
theorem StG.read {W:World}{G:Nat}{ob:Option Nat}{A:Value}{w:World}{b o:Nat}{v:Value}(h:StG W G ob A w)(hc:W.cell? ⟨b,o,none⟩=some v)(h1:b≠G)(h2:some b≠ob):w.cell? ⟨b,o,none⟩=some v:=by
 rw [World.cell?_of_block (a:=⟨b,o,none⟩) (h.keep b (World.block_lt_of_cell? W _ hc) h1 h2)]
 exact hc
/-- append(v, l...), elements of k cells. -/
theorem wpList_apK {P:Program}{tS tE:TypeId}{k bytes:Nat}{z:Value}(hund:P.underlying tS=some (.slice tE))(hinfo:(P.info? tE).map (fun i=>(i.zero,i.size,i.bytes))=some (some z,k,bytes))(hzc:z.cells.size=k)(hkp:0<k)
 {w:World} {ops:Array Oper} {rest:List Oper} {o:Oper} {a:Act} {Q:Exit→Act→World→Prop} (hgd:o.guard=none) (s x:Operand)
 (ho:o.op=.call { callee:=.builtin .append,args:=#[s,x],argTypes:=#[tS,tS] })
 (base:Nat) (v:Value) (n:Nat) (rows news:List (List Value)) (hs:a.eval s=v) (ad:Option Addr) (m c:Nat) (hx:a.eval x=.slice ad m c) (hown:w.ownsRow base tE k v n rows.flatten) (hy:Rk w k ad m news) (hone:∀ r∈news,∀ u∈r,u.oneCell'=true) (hc:ad=none→c=0) (hn:(n+m)*bytes≤140737488355328) (hm:n+m≤maxLen) (hbase:base≤w.heap.size)
 (h:∀ v' w',w'.ownsRow base tE k v' (n+m) (rows++news).flatten→w.grownBy w' v.ownBlock→Below base w w'→wpList P ops Q rest (a.put o.dst v') w'):
 wpList P ops Q (o::rest) a w:=by
 have hm':news.length=m:=hy.hlen
 obtain ⟨i0,hi0,hz0,hz1,hz2⟩:=info_parts hinfo
 cases ad with
 | none=>
  obtain rfl:news=[]:=by
   cases news with
   | nil=>rfl
   | cons x l=>obtain ⟨_,_,h,_⟩:=hy.some_of (by simp);cases h
  obtain rfl:=hc rfl
  obtain rfl:m=0:=hm'.symm
  refine wpList_append_own_none hgd s x _ ho base _ i0 k hund hi0 v n _ hs hown hx ?_
  exact h v w (by rw [List.append_nil];exact hown) (World.grownBy.refl w _) (Below.refl _ _)
 | some ad=>
  have hk:∀ r∈news,r.length=k:=fun r hr=>by
   obtain ⟨i,hi,rfl⟩:=List.getElem_of_mem hr
   exact hy.klen hi
  refine wpList_append_own w hgd s x _ ho base _ i0 _ k bytes hund hi0 hz0 hz1 hz2 hzc hkp v n _ hs hown ad m c news.flatten hx (by rw [flat_len hk,hm']) (hy.news hkp) (rk_one hone) hm hn hbase ?_
  intro v' w' h1 h2 _
  refine h v' w' (own_ext h1 rfl (by simp)) h2 (((Below.refl _ w).grown h2 hbase (fun k hk=>(hown.lt k hk).1)))
theorem rk_new (w:World)(E:TypeId){k:Nat}(cs:List Value)(hk:cs.length=k):Rk (w.alloc (.cells cs.toArray E)) k (some ⟨w.heap.size,0,none⟩) 1 [cs]:=
 ⟨rfl,fun i hi=>by
  obtain rfl:i=0:=by simp at hi;omega
  refine ⟨hk,w.heap.size,0,rfl,fun j hj=>?_⟩
  have:=(Row.new w E cs).cell j hj
  rw [Nat.zero_mul,Nat.zero_add];exact this⟩
end Go.Proofs.YtdjpjfdeeelijaaGreatDoor
