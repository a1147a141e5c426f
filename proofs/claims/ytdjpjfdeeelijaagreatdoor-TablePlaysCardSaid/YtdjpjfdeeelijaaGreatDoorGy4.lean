/- Both tables side by side. -/
import Derived.Test.YtdjpjfdeeelijaaGreatDoorGy1
import Derived.Test.YtdjpjfdeeelijaaGreatDoorGy2
import Derived.Test.YtdjpjfdeeelijaaGreatDoorGy3
namespace Go.Proofs.YtdjpjfdeeelijaaGreatDoor
open Go.RowKit Go.Sort Go.Shelf Go.WideMaps Go.Maps Go.WideShapes Go.WideElems Go.MapKept Go.ChangeMaps
attribute [local go_sem] Oper.semAt_some
theorem cell_heap {w w':World}{x:Addr}(h:w'.heap[x.block]?=w.heap[x.block]?):w'.cell? x=w.cell? x:=by
 unfold World.cell?
 rw [h]
/-- The document's file system stands where its blocks stand. -/
theorem RB.rfk {wm w4 w':World}{G:Nat}{v:Value}{L:List ND}{d:Nat→Option Addr × Nat}(h:RB wm w4 G v L d)(hf:Fine L)(hL:∃ P,Lay L P)(hK:Kid L)(hk:∀ k,wm.heap.size≤k→k<w4.heap.size→w'.heap[k]?=w4.heap[k]?):RF w' G L d:=by
 refine ⟨hf,hL,hK,?_,fun i hi=>?_⟩
 ·obtain ⟨a,c,rfl,h1,_,_,_,hb⟩:=own_rk h.own (rrs_nine L d) (by omega)
  refine ⟨a,c,⟨by rw [hk G h.low h.row.lt];exact h.row.heap⟩,⟨h1.hlen,fun i hi=>?_⟩⟩
  obtain ⟨e1,b,off,e,hc⟩:=h1.row i hi
  obtain ⟨g,e2,h3,h4⟩:=hb _ e
  cases e2
  exact ⟨e1,_,_,e,fun j hj=>by rw [cell_heap (w:=w4) (hk _ h3 h4)];exact hc j hj⟩
 ·obtain ⟨h1,h2,h3⟩:=h.data i hi
  refine ⟨⟨h1.hlen,fun j hj=>?_⟩,h2⟩
  obtain ⟨b',off,e,hc⟩:=h1.cell j hj
  obtain ⟨k1,k2,_⟩:=h3 _ e
  exact ⟨b',off,e,by rw [cell_heap (w:=w4) (x:=⟨b',off+j,none⟩) (hk b' k1 k2)];exact hc⟩
/-- A world's first blocks. -/
def cutW (w:World)(n:Nat):World:={ w with heap:=w.heap.extract 0 n }
theorem cutW_at {w:World}{n k:Nat}(h:k<n):(cutW w n).heap[k]?=w.heap[k]?:=by
 show (w.heap.extract 0 n)[k]?=_
 rw [Array.getElem?_extract]
 by_cases h2:k<w.heap.size
 ·rw [if_pos (by omega),Nat.zero_add]
 ·rw [if_neg (by omega),Array.getElem?_eq_none (by omega)]
theorem cutW_size {w:World}{n:Nat}(h:n≤w.heap.size):(cutW w n).heap.size=n:=by
 show (w.heap.extract 0 n).size=n
 rw [Array.size_extract]
 omega
theorem cutW_below {w:World}{n:Nat}(h:n≤w.heap.size):Below (cutW w n).heap.size (cutW w n) w:=
 ⟨rfl,rfl,rfl,by rw [cutW_size h];exact h,fun k hk=>by rw [cutW_size h] at hk;exact (cutW_at hk).symm⟩
structure PW9 (w0:World)(F:Nat)(t:FT)(p g h c m tb ob root:Nat)(wm w4:World)(q a b G d tr oq:Nat)(v4:Value)(dd:Nat→Option Addr × Nat)(vh vr:Value)(st sr:S9)(ws:List Nat)(vS vL vP:Value)(vs:List Value)(Ls:List (List Int))(L:List ND9)(P:List LF)(w:World):Prop where
 ow:OX9 46 w0.heap.size ob p c tb vh st.h w
 tw:TW w0 F t p g h c m tb st.s ws root st.fr w
 od:OX9 76 w4.heap.size oq q d tr vr sr.h w
 rc:RCW w w4.heap.size q a b G d vS sr.s vs Ls
 t9:T9 w w4.heap.size tr d root vL vP L P sr.fr
 lr:sr.fr=false→L.Perm (prR sr.kids)∧P=allL root sr.kids
 lo:g<wm.heap.size∧h<wm.heap.size∧c<wm.heap.size∧m<wm.heap.size∧tb<wm.heap.size∧ob<wm.heap.size
 le:w0.heap.size≤w4.heap.size∧wm.heap.size≤w4.heap.size∧w4.heap.size≤w.heap.size
 kp:∀ k,wm.heap.size≤k→k<w4.heap.size→w.heap[k]?=w4.heap[k]?
 rb:RB wm w4 G v4 t.L dd
 fl:Fine t.L∧(∃ P,Lay t.L P)∧Kid t.L
 vk:∀ k,vh.ownBlock=some k→k<wm.heap.size∨w4.heap.size≤k
 ne:∀ k,vh.ownBlock=some k→vr.ownBlock≠some k∧k≠a
 na:∀ k,vr.ownBlock=some k→k≠a
section
variable {w0:World}{F:Nat}{t:FT}{p g h c m tb ob root:Nat}{wm w4:World}{q a b G d tr oq:Nat}{v4:Value}{dd:Nat→Option Addr × Nat}{vh vh' vr vr':Value}{st st' sr sr':S9}{ws ws':List Nat}{vS vL vP vS' vL' vP':Value}{vs vs':List Value}{Ls Ls':List (List Int)}{L L':List ND9}{P P':List LF}{w w':World}
theorem PW9.below (H:PW9 w0 F t p g h c m tb ob root wm w4 q a b G d tr oq v4 dd vh vr st sr ws vS vL vP vs Ls L P w)(hb:Below w.heap.size w w'):PW9 w0 F t p g h c m tb ob root wm w4 q a b G d tr oq v4 dd vh vr st sr ws vS vL vP vs Ls L P w':=
 ⟨H.ow.below hb,H.tw.below hb,H.od.below hb,H.rc.below hb,H.t9.below hb,H.lr,H.lo,⟨H.le.1,H.le.2.1,Nat.le_trans H.le.2.2 hb.size⟩,fun k h1 h2=>by rw [hb.block k (Nat.lt_of_lt_of_le h2 H.le.2.2)];exact H.kp k h1 h2,H.rb,H.fl,H.vk,H.ne,H.na⟩
/-- What the program's side may turn. -/
abbrev SP9 (g h c m tb ob:Nat)(vh:Value)(k:Nat):Prop:=(cS g h c m k∨k=tb)∨k=ob∨vh.ownBlock=some k
theorem PW9.nP (H:PW9 w0 F t p g h c m tb ob root wm w4 q a b G d tr oq v4 dd vh vr st sr ws vS vL vP vs Ls L P w){k:Nat}{E:TypeId}{cs:List Value}(hr:Row w k E cs)(h1:E≠135)(h2:E≠96)(h3:E≠36)(h4:E≠106)(h5:E≠46)(h6:E=3→vh.ownBlock≠some k):¬ SP9 g h c m tb ob vh k:=by
 rintro ((e|e)|e|e)
 ·exact H.tw.cw.nR hr h1 h2 h3 e
 ·exact row_tys hr H.tw.tab h4 e
 ·exact row_tys hr H.ow.own h5 e
 ·by_cases hE:E=3
  ·exact h6 hE e
  ·exact own_row_neK H.ow.hh hr hE e.symm
/-- The program's side turns. -/
theorem PW9.prog (H:PW9 w0 F t p g h c m tb ob root wm w4 q a b G d tr oq v4 dd vh vr st sr ws vS vL vP vs Ls L P w)(he:EX (SP9 g h c m tb ob vh) w w')(ho:OX9 46 w0.heap.size ob p c tb vh' st'.h w')(hT:TW w0 F t p g h c m tb st'.s ws' root st'.fr w')(hn:∀ k,vh'.ownBlock=some k→vh.ownBlock=some k∨w.heap.size≤k):
 PW9 w0 F t p g h c m tb ob root wm w4 q a b G d tr oq v4 dd vh' vr st' sr ws' vS vL vP vs Ls L P w':=by
 have hint:∀ {k:Nat} {cs:List Value},Row w k 3 cs→(vr.ownBlock=some k∨k=a)→¬ SP9 g h c m tb ob vh k:=fun hr hk=>H.nP hr (by decide) (by decide) (by decide) (by decide) (by decide) (fun _ e=>by
  rcases hk with h1|h1
  ·exact (H.ne _ e).1 h1
  ·exact (H.ne _ e).2 h1)
 have oth:∀ {k:Nat} {E:TypeId} {cs:List Value},Row w k E cs→E≠135→E≠96→E≠36→E≠106→E≠46→E≠3→¬ SP9 g h c m tb ob vh k:=fun hr h1 h2 h3 h4 h5 h6=>H.nP hr h1 h2 h3 h4 h5 (fun e=>absurd e h6)
 have hz:=he.size
 refine ⟨ho,hT,⟨he.row H.od.own (oth H.od.own (by decide) (by decide) (by decide) (by decide) (by decide) (by decide)),he.own H.od.hh (fun k e=>by obtain ⟨ds,hr⟩:=own_blk H.od.hh k e;exact hint hr (.inl e)),H.od.lo⟩,
  ⟨he.row H.rc.row (oth H.rc.row (by decide) (by decide) (by decide) (by decide) (by decide) (by decide)),he.own H.rc.own (fun k e=>by obtain ⟨ds,hr⟩:=own_rowK H.rc.own k e;exact oth hr (by decide) (by decide) (by decide) (by decide) (by decide) (by decide)),
   H.rc.rs.exS he (oth H.rc.rs.rp.pool (by decide) (by decide) (by decide) (by decide) (by decide) (by decide)) (hint H.rc.rs.rp.cnts (.inr rfl)) (oth H.rc.rs.rp.bys (by decide) (by decide) (by decide) (by decide) (by decide) (by decide)) (fun x hx=>by obtain ⟨ds,hr⟩:=old_row H.rc hx;exact oth hr (by decide) (by decide) (by decide) (by decide) (by decide) (by decide)),H.rc.hd,H.rc.lo⟩,
  ⟨he.row H.t9.row (oth H.t9.row (by decide) (by decide) (by decide) (by decide) (by decide) (by decide)),he.own H.t9.ln (fun k e=>by obtain ⟨ds,hr⟩:=own_rowK H.t9.ln k e;exact oth hr (by decide) (by decide) (by decide) (by decide) (by decide) (by decide)),he.own H.t9.pn (fun k e=>by obtain ⟨ds,hr⟩:=own_rowK H.t9.pn k e;exact oth hr (by decide) (by decide) (by decide) (by decide) (by decide) (by decide)),H.t9.lo⟩,
  H.lr,H.lo,⟨H.le.1,H.le.2.1,Nat.le_trans H.le.2.2 hz⟩,fun k h1 h2=>?_,H.rb,H.fl,fun k e=>?_,fun k e=>?_,H.na⟩
 ·rw [he.block k (Nat.lt_of_lt_of_le h2 H.le.2.2) ?_]
  ·exact H.kp k h1 h2
  ·have hl:=H.lo
   rintro ((e|e)|e|e)
   ·rcases e with e|e|e|e <;> omega
   ·omega
   ·omega
   ·rcases H.vk k e with h3|h3 <;> omega
 ·rcases hn k e with h1|h1
  ·exact H.vk k h1
  ·exact .inr (Nat.le_trans H.le.2.2 h1)
 ·rcases hn k e with h1|h1
  ·exact H.ne k h1
  ·refine ⟨fun e2=>?_,fun e2=>?_⟩
   ·have:=(H.od.hh.lt k e2).2
    omega
   ·have:=H.rc.rs.rp.cnts.lt
    omega
/-- What the document's side may turn. -/
abbrev SR9 (a b d tr oq:Nat)(vs:List Value)(vS vL vP vr:Value)(k:Nat):Prop:=RT a b d tr vs vS vL vP k∨k=oq∨vr.ownBlock=some k
theorem PW9.rlow (H:PW9 w0 F t p g h c m tb ob root wm w4 q a b G d tr oq v4 dd vh vr st sr ws vS vL vP vs Ls L P w){k:Nat}(hk:SR9 a b d tr oq vs vS vL vP vr k):w4.heap.size≤k:=by
 rcases hk with (e|rfl|e|e)|rfl|e
 ·exact (H.rc.tys e).1
 ·exact H.t9.lo
 ·exact (H.t9.ln.lt k e).1
 ·exact (H.t9.pn.lt k e).1
 ·exact H.od.lo
 ·exact (H.od.hh.lt k e).1
theorem PW9.nD (H:PW9 w0 F t p g h c m tb ob root wm w4 q a b G d tr oq v4 dd vh vr st sr ws vS vL vP vs Ls L P w){k:Nat}{E:TypeId}{cs:List Value}(hr:Row w k E cs)(h1:E≠89)(h2:E≠152)(h3:E≠5)(h4:E≠175)(h5:E≠155)(h6:E≠169)(h7:E≠166)(h8:E≠76)(h9:E=3→k≠a∧vr.ownBlock≠some k):¬ SR9 a b d tr oq vs vS vL vP vr k:=by
 rintro ((e|e|e|e)|e|e)
 ·obtain ⟨_,T,ds,hr2,hh⟩:=H.rc.tys e
  rcases hh with ⟨hT,ha⟩|rfl|rfl|rfl|rfl
  ·by_cases hE:E=3
   ·exact (h9 hE).1 ha
   ·exact row_tys hr hr2 (fun e=>hE (e.trans hT)) rfl
  ·exact row_tys hr hr2 h1 rfl
  ·exact row_tys hr hr2 h2 rfl
  ·exact row_tys hr hr2 h3 rfl
  ·exact row_tys hr hr2 h4 rfl
 ·exact row_tys hr H.t9.row h5 e
 ·exact own_row_neK H.t9.ln hr h6 e.symm
 ·exact own_row_neK H.t9.pn hr h7 e.symm
 ·exact row_tys hr H.od.own h8 e
 ·by_cases hE:E=3
  ·exact (h9 hE).2 e
  ·exact own_row_neK H.od.hh hr hE e.symm
/-- The document's side turns. -/
theorem PW9.refr (H:PW9 w0 F t p g h c m tb ob root wm w4 q a b G d tr oq v4 dd vh vr st sr ws vS vL vP vs Ls L P w)(he:EX (SR9 a b d tr oq vs vS vL vP vr) w w')(ho:OX9 76 w4.heap.size oq q d tr vr' sr'.h w')(hR:RCW w' w4.heap.size q a b G d vS' sr'.s vs' Ls')(hT:T9 w' w4.heap.size tr d root vL' vP' L' P' sr'.fr)(hl:sr'.fr=false→L'.Perm (prR sr'.kids)∧P'=allL root sr'.kids)(hn:∀ k,vr'.ownBlock=some k→vr.ownBlock=some k∨w.heap.size≤k):
 PW9 w0 F t p g h c m tb ob root wm w4 q a b G d tr oq v4 dd vh vr' st sr' ws vS' vL' vP' vs' Ls' L' P' w':=by
 have oth:∀ {k:Nat} {E:TypeId} {cs:List Value},Row w k E cs→E≠89→E≠152→E≠5→E≠175→E≠155→E≠169→E≠166→E≠76→E≠3→¬ SR9 a b d tr oq vs vS vL vP vr k:=fun hr h1 h2 h3 h4 h5 h6 h7 h8 h9=>H.nD hr h1 h2 h3 h4 h5 h6 h7 h8 (fun e=>absurd e h9)
 have hlow:Below w0.heap.size w0 w':=he.below H.tw.cw.low (fun k e=>Nat.le_trans H.le.1 (H.rlow e)) H.tw.cw.low.size
 have hm:¬ SR9 a b d tr oq vs vS vL vP vr m:=fun e=>by
  have h1:=H.rlow e
  have h2:=H.le.2.1
  have h3:=H.lo
  omega
 refine ⟨⟨he.row H.ow.own (oth H.ow.own (by decide) (by decide) (by decide) (by decide) (by decide) (by decide) (by decide) (by decide) (by decide)),he.own H.ow.hh (fun k e=>by obtain ⟨ds,hr⟩:=own_blk H.ow.hh k e;exact H.nD hr (by decide) (by decide) (by decide) (by decide) (by decide) (by decide) (by decide) (by decide) (fun _=>⟨(H.ne k e).2,(H.ne k e).1⟩)),H.ow.lo⟩,
  ⟨⟨he.row H.tw.cw.cache (oth H.tw.cw.cache (by decide) (by decide) (by decide) (by decide) (by decide) (by decide) (by decide) (by decide) (by decide)),
   ⟨he.row H.tw.cw.pool.pool (oth H.tw.cw.pool.pool (by decide) (by decide) (by decide) (by decide) (by decide) (by decide) (by decide) (by decide) (by decide)),he.row H.tw.cw.pool.frames (oth H.tw.cw.pool.frames (by decide) (by decide) (by decide) (by decide) (by decide) (by decide) (by decide) (by decide) (by decide)),he.row H.tw.cw.pool.words (oth H.tw.cw.pool.words (by decide) (by decide) (by decide) (by decide) (by decide) (by decide) (by decide) (by decide) (by decide)),H.tw.cw.pool.ok,H.tw.cw.pool.n1,H.tw.cw.pool.n2,H.tw.cw.pool.wl,H.tw.cw.pool.wb,H.tw.cw.pool.c0⟩,
   H.tw.cw.map.ex he hm,H.tw.cw.files,hlow,H.tw.cw.lg,H.tw.cw.lh,H.tw.cw.lc,H.tw.cw.lm,H.tw.cw.few,H.tw.cw.tb⟩,he.row H.tw.tab (oth H.tw.tab (by decide) (by decide) (by decide) (by decide) (by decide) (by decide) (by decide) (by decide) (by decide)),H.tw.sz,H.tw.lt⟩,
  ho,hR,hT,hl,H.lo,⟨H.le.1,H.le.2.1,Nat.le_trans H.le.2.2 he.size⟩,fun k h1 h2=>?_,H.rb,H.fl,H.vk,fun k e=>⟨fun e2=>?_,(H.ne k e).2⟩,fun k e=>?_⟩
 ·rw [he.block k (Nat.lt_of_lt_of_le h2 H.le.2.2) (fun e=>by have:=H.rlow e;omega)]
  exact H.kp k h1 h2
 ·rcases hn k e2 with h1|h1
  ·exact (H.ne k e).1 h1
  ·have:=(H.ow.hh.lt k e).2
   omega
 ·rcases hn k e with h1|h1
  ·exact H.na k h1
  ·have:=H.rc.rs.rp.cnts.lt
   omega
/-- The program's table stands where but such blocks turn. -/
theorem TW.offX {fr:Bool}{s:CC}(H:TW w0 F t p g h c m tb s ws root fr w)(ho:OffX 46 w0.heap.size vh w w'):TW w0 F t p g h c m tb s ws root fr w':=by
 obtain ⟨Z,he,hZ⟩:=ho
 have ne:∀ {k:Nat} {E:TypeId} {cs:List Value},Row w k E cs→E≠34→E≠46→E≠3→¬ Z k:=fun hr h1 h2 h3 hk=>by
  rcases (hZ _ hk).2 with ⟨_,r⟩|⟨_,r⟩|⟨_,_,r⟩
  ·exact row_tys hr r h1 rfl
  ·exact row_tys hr r h2 rfl
  ·exact row_tys hr r h3 rfl
 refine H.offP he (ne H.cw.cache (by decide) (by decide) (by decide)) (ne H.cw.pool.pool (by decide) (by decide) (by decide)) (ne H.cw.pool.frames (by decide) (by decide) (by decide)) (ne H.cw.pool.words (by decide) (by decide) (by decide)) (fun hk=>?_) (ne H.tab (by decide) (by decide) (by decide)) (fun k hk=>(hZ k hk).1)
 rcases (hZ _ hk).2 with ⟨_,r⟩|⟨_,r⟩|⟨_,_,r⟩
 ·exact H.cw.map.row r rfl
 ·exact H.cw.map.row r rfl
 ·exact H.cw.map.row r rfl
theorem RCW.offX {B:Nat}{s:CC}(R:RCW w B q a b G d vS s vs Ls)(hna:∀ k,vr.ownBlock=some k→k≠a)(ho:OffX 76 B vr w w'):RCW w' B q a b G d vS s vs Ls:=by
 obtain ⟨Z,he,hZ⟩:=ho
 have ne:∀ {k:Nat} {E:TypeId} {cs:List Value},Row w k E cs→E≠34→E≠76→(E=3→k=a)→¬ Z k:=fun {k} {E} {cs} hr h1 h2 h3 hk=>by
  rcases (hZ _ hk).2 with ⟨_,r⟩|⟨_,r⟩|⟨e,_,r⟩
  ·exact row_tys hr r h1 rfl
  ·exact row_tys hr r h2 rfl
  ·by_cases hE:E=3
   ·exact hna _ e (h3 hE)
   ·exact row_tys hr r hE rfl
 exact ⟨he.row R.row (ne R.row (by decide) (by decide) (fun e=>absurd e (by decide))),he.own R.own (fun k e=>by obtain ⟨ds,hr⟩:=own_rowK R.own k e;exact ne hr (by decide) (by decide) (fun e=>absurd e (by decide))),
  R.rs.exS he (ne R.rs.rp.pool (by decide) (by decide) (fun e=>absurd e (by decide))) (ne R.rs.rp.cnts (by decide) (by decide) (fun _=>rfl)) (ne R.rs.rp.bys (by decide) (by decide) (fun e=>absurd e (by decide))) (fun x hx=>by obtain ⟨ds,hr⟩:=old_row R hx;exact ne hr (by decide) (by decide) (fun e=>absurd e (by decide))),R.hd,R.lo⟩
theorem T9.offX {B:Nat}{fr:Bool}(T:T9 w B tr d root vL vP L P fr)(ho:OffX 76 B vr w w'):T9 w' B tr d root vL vP L P fr:=by
 obtain ⟨Z,he,hZ⟩:=ho
 have ne:∀ {k:Nat} {E:TypeId} {cs:List Value},Row w k E cs→E≠34→E≠76→E≠3→¬ Z k:=fun hr h1 h2 h3 hk=>by
  rcases (hZ _ hk).2 with ⟨_,r⟩|⟨_,r⟩|⟨_,_,r⟩
  ·exact row_tys hr r h1 rfl
  ·exact row_tys hr r h2 rfl
  ·exact row_tys hr r h3 rfl
 exact ⟨he.row T.row (ne T.row (by decide) (by decide) (by decide)),he.own T.ln (fun k e=>by obtain ⟨ds,hr⟩:=own_rowK T.ln k e;exact ne hr (by decide) (by decide) (by decide)),he.own T.pn (fun k e=>by obtain ⟨ds,hr⟩:=own_rowK T.pn k e;exact ne hr (by decide) (by decide) (by decide)),T.lo⟩
end
end Go.Proofs.YtdjpjfdeeelijaaGreatDoor
