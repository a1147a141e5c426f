/- Merged: Bd6 Bd7 Bd8 Bd9 BdAp. -/
import Derived.Test.YtdjpjfdeeelijaaGreatDoorKBd
import Derived.Test.YtdjpjfdeeelijaaGreatDoorKG6
import Derived.BigQuiet
import Derived.Deep.DeepCutAuto
import Derived.Test.YtdjpjfdeeelijaaGreatDoorW05
import Derived.Maps.AppendAt
namespace Go.Proofs.YtdjpjfdeeelijaaGreatDoor
open Go.RowKit Go.Sort Go.Shelf
attribute [local go_sem] Oper.semAt_some
/-- The blocks that the reference may write: counts, slices of bytes, the struct, bytes, slots. -/
def R8 (a b d:Nat)(vs:List Value)(vL:Value)(k:Nat):Prop:=k=a∨k=b∨k=d∨OldB vs k∨vL.ownBlock=some k
theorem EX.andThen {S S1:Nat→Prop}{w w1 w2:World}(h1:EX S w w1)(h2:EX S1 w1 w2)(hS:∀ k,k<w.heap.size→S1 k→S k):EX S w w2:=
 ⟨h2.os.trans h1.os,h2.tape.trans h1.tape,h2.output.trans h1.output,Nat.le_trans h1.size h2.size,fun k hk hn=>(h2.block k (Nat.lt_of_lt_of_le hk h1.size) (fun e=>hn (hS k hk e))).trans (h1.block k hk hn)⟩
/-- A step of the reference's. -/
structure RSt (base q a b G d:Nat)(vL:Value)(vs:List Value)(w:World)(s':CC)(vL':Value)(vs':List Value)(Ls':List (List Int))(w':World):Prop where
 rc:RCW w' base q a b G d vL' s' vs' Ls'
 ex:EX (R8 a b d vs vL) w w'
 al:∀ k,k<w.heap.size→R8 a b d vs' vL' k→R8 a b d vs vL k
section
variable {base q a b G d:Nat}{vL vL' vL1 vL2:Value}{s s' s1 s2:CC}{vs vs' vs1 vs2:List Value}{Ls Ls' Ls1 Ls2:List (List Int)}{w w' w1 w2:World}
theorem RCW.below (H:RCW w base q a b G d vL s vs Ls)(hb:Below w.heap.size w w'):RCW w' base q a b G d vL s vs Ls:=⟨H.row.below hb H.row.lt,own_below H.own hb,H.rs.below hb,H.hd,H.lo⟩
theorem RCW.h0 (H:RCW w base q a b G d vL s vs Ls):∀ x∈s.fs,0≤x.cnt:=fun x hx=>H.rs.c0 x.cnt (List.mem_map_of_mem hx)
theorem RCW.slots (H:RCW w base q a b G d vL s vs Ls):∃ aL cL,vL=.slice aL s.sl.length cL∧Rk w 3 aL s.sl.length (s.sl.map slC):=by
 obtain ⟨a3,c3,rfl,hrk3,_⟩:=own_rk H.own (by intro r hr;obtain ⟨x,_,rfl⟩:=List.mem_map.1 hr;rfl) (by omega)
 exact ⟨a3,c3,rfl,hrk3⟩
theorem RSt.refl (H:RCW w base q a b G d vL s vs Ls):RSt base q a b G d vL vs w s vL vs Ls w:=⟨H,EX.refl _,fun _ _ h=>h⟩
theorem RSt.andThen (h1:RSt base q a b G d vL vs w s1 vL1 vs1 Ls1 w1)(h2:RSt base q a b G d vL1 vs1 w1 s2 vL2 vs2 Ls2 w2):RSt base q a b G d vL vs w s2 vL2 vs2 Ls2 w2:=
 ⟨h2.rc,h1.ex.andThen h2.ex h1.al,fun k hk h=>h1.al k hk (h2.al k (Nat.lt_of_lt_of_le hk h1.ex.size) h)⟩
theorem RSt.still (h:RSt base q a b G d vL vs w s1 vL1 vs1 Ls1 w1)(hb:Below w1.heap.size w1 w2):RSt base q a b G d vL vs w s1 vL1 vs1 Ls1 w2:=⟨h.rc.below hb,h.ex.trans (EX.of_below hb),h.al⟩
theorem old_row (H:RCW w base q a b G d vL s vs Ls){x:Nat}(h:OldB vs x):∃ ds,Row w x 5 ds:=by
 obtain ⟨j,hj,e2⟩:=h
 exact own_blk (H.rs.own j hj (by have:=H.rs.ll;omega)) x e2
/-- A call of the pool's. -/
theorem RCW.pool (H:RCW w base q a b G d vL s vs Ls){fs':List FR}{X:Option Nat}(hr:RS w' base q a b (cnts fs') vs' Ls')(hh:HoldsB fs' Ls')(he:E3 w w' a b X)(hX:∀ x,X=some x→OldB vs x)
 (hal:∀ i (h:i<vs'.length) x,vs'[i].ownBlock=some x→OldB vs x∨w.heap.size≤x) (s':CC) (h1:s'.fs=fs') (h2:s'.sl=s.sl):RSt base q a b G d vL vs w s' vL vs' Ls' w':=by
 refine ⟨⟨?_,?_,?_,?_,H.lo⟩,?_,?_⟩
 ·exact he.row H.row (row_tys H.row H.rs.rp.cnts (by decide)) (row_tys H.row H.rs.rp.bys (by decide)) (fun e=>by obtain ⟨ds,hd⟩:=old_row H (hX d e.symm);exact row_tys H.row hd (by decide) rfl)
 ·rw [h2]
  exact he.own H.own (fun e=>own_row_neK H.own H.rs.rp.cnts (by decide) e.symm) (fun e=>own_row_neK H.own H.rs.rp.bys (by decide) e.symm) (fun x e e2=>by obtain ⟨ds,hd⟩:=old_row H (hX x e2);exact own_row_neK H.own hd (by decide) e.symm)
 ·rw [h1];exact hr
 ·rw [h1];exact hh
 ·exact ⟨he.os,he.tape,he.output,he.size,fun k hk hn=>he.block k hk (fun e=>hn (.inl e)) (fun e=>hn (.inr (.inl e))) (fun e=>hn (.inr (.inr (.inr (.inl (hX k e.symm))))))⟩
 ·intro k hk h
  rcases h with h|h|h|⟨i,hi,h⟩|h
  ·exact .inl h
  ·exact .inr (.inl h)
  ·exact .inr (.inr (.inl h))
  ·rcases hal i hi k h with h|h
   ·exact .inr (.inr (.inr (.inl h)))
   ·omega
  ·exact .inr (.inr (.inr (.inr h)))
theorem RS.exS {S:Nat→Prop}{cs:List Int}{p:Nat}(H:RS w base p a b cs vs Ls)(he:EX S w w')(hp:¬ S p)(ha:¬ S a)(hb:¬ S b)(hv:∀ x,OldB vs x→¬ S x):RS w' base p a b cs vs Ls:=
 ⟨⟨he.row H.rp.pool hp,he.row H.rp.cnts ha,he.row H.rp.bys hb,H.rp.vl,H.rp.n2⟩,H.ll,fun i h1 h2=>he.own (H.own i h1 h2) (fun g e=>hv g ⟨i,h1,e⟩),H.ap,H.c0,H.lim,H.pB,H.aB,H.bB⟩
/-- The list of slots is another one. -/
theorem RCW.appL (H:RCW w base q a b G d vL s vs Ls){l':List SLO}(he:EX (fun k=>vL.ownBlock=some k) w w1)(hv:w1.ownsRow base 175 3 vL' l'.length (l'.map slC).flatten)
 (hal:∀ x,vL'.ownBlock=some x→vL.ownBlock=some x∨w.heap.size≤x) (s':CC) (h1:s'.fs=s.fs) (h2:s'.sl=l'):RSt base q a b G d vL vs w s' vL' vs Ls (w1.setCell ⟨d,2,none⟩ vL'):=by
 have nv:∀ {x:Nat} {T:TypeId} {cs:List Value},Row w x T cs→T≠175→¬ vL.ownBlock=some x:=fun hr hT e=>own_row_neK H.own hr hT e.symm
 have hrow1:Row w1 d 152 _:=he.row H.row (nv H.row (by decide))
 have hd:EX (fun k=>vL.ownBlock=some k∨k=d) w (w1.setCell ⟨d,2,none⟩ vL'):=(he.mono (fun _ _ h=>.inl h)).set (g:=d) (.inl (.inr rfl)) 2 _
 have hn:∀ {x:Nat} {T:TypeId} {cs:List Value},Row w x T cs→T≠175→T≠152→¬ (vL.ownBlock=some x∨x=d):=fun hr hT hC e=>by
  rcases e with e|rfl
  ·exact nv hr hT e
  ·exact row_tys hr H.row hC rfl
 refine ⟨⟨hrow1.set 2 vL',?_,?_,?_,H.lo⟩,?_,?_⟩
 ·rw [h2]
  exact own_setOther hv (own_row_neK hv hrow1 (by decide)) _
 ·rw [h1]
  exact H.rs.exS hd (hn H.rs.rp.pool (by decide) (by decide)) (hn H.rs.rp.cnts (by decide) (by decide)) (hn H.rs.rp.bys (by decide) (by decide)) (fun x hx=>by obtain ⟨ds,hr⟩:=old_row H hx;exact hn hr (by decide) (by decide))
 ·rw [h1];exact H.hd
 ·refine hd.mono fun k _ h=>?_
  rcases h with h|h
  ·exact .inr (.inr (.inr (.inr h)))
  ·exact .inr (.inr (.inl h))
 ·intro k hk h
  rcases h with h|h|h|h|h
  ·exact .inl h
  ·exact .inr (.inl h)
  ·exact .inr (.inr (.inl h))
  ·exact .inr (.inr (.inr (.inl h)))
  ·rcases hal k h with h|h
   ·exact .inr (.inr (.inr (.inr h)))
   ·omega
theorem RCW.newL (H:RCW w base q a b G d vL s vs Ls){l':List SLO}(hb:Below w.heap.size w w1)(hv:w1.ownsRow w.heap.size 175 3 vL' l'.length (l'.map slC).flatten)(hbs:base≤w.heap.size)
 (s':CC) (h1:s'.fs=s.fs) (h2:s'.sl=l'):RSt base q a b G d vL vs w s' vL' vs Ls (w1.setCell ⟨d,2,none⟩ vL'):=
 H.appL (EX.of_below hb) (own_from hv hbs) (fun x e=>.inr (own_low hv (Nat.le_refl _) x e)) s' h1 h2
end
theorem takeVs_old {fs:List FR}{vs:List Value}(n:Nat):∀ i (h:i<(takeVs fs vs).length) x,(takeVs fs vs)[i].ownBlock=some x→OldB vs x∨n≤x:=by
 unfold takeVs
 split
 ·rename_i k _
  intro i h x e
  rw [List.length_set] at h
  rw [List.getElem_set] at e
  split at e
  ·cases e
  ·exact .inl ⟨i,h,e⟩
 ·exact fun i h x e=>.inl ⟨i,h,e⟩
theorem rcnew_any (q G:Nat)(w:World):
 Calls Tryz.prog 23 #[.pointer (some ⟨q,0,none⟩),.pointer (some ⟨G,0,none⟩)] w fun e w'=>e=.returned (.tuple #[.pointer (some ⟨w.heap.size,0,none⟩),.int .i64 0])∧w'=w.alloc (.cells #[.pointer (some ⟨q,0,none⟩),.pointer (some ⟨G,0,none⟩),.slice none 0 0] 152):=by
 go_enter Tryz.func23,Tryz.ntmps23
 go_wp2_with fail
 go_ret2
 exact ⟨rfl,rfl⟩
set_option maxRecDepth 100000 in
set_option maxHeartbeats 4000000 in
theorem rctake_any {rd:Int→Int→List UInt8 × Int}{hx:List Nat}(base q a b G d:Nat)(vL:Value)(s:CC)(vs:List Value)(Ls:List (List Int))(w:World)(H:RCW w base q a b G d vL s vs Ls)(Gd:Good rd s hx)(hbs:base≤w.heap.size)(hl:s.sl.length≤1000000000)(hM:∀ c∈cnts s.fs,c<9223372036854775807):
 Calls Tryz.prog 37 #[.pointer (some ⟨d,0,none⟩)] w fun e w'=>e=.returned (.tuple #[.int .i64 (takC s).1,.int .i64 (takC s).2.1])∧∃ vL' vs' Ls',RSt base q a b G d vL vs w (takC s).2.2 vL' vs' Ls' w':=by
 have HH:=hid H
 have H0:=hid H.h0
 obtain ⟨c0,c1,c2⟩:=H.row.three
 have hdl:=H.row.lt
 obtain ⟨aL,cL,rfl,_⟩:=H.slots
 have HTK:=hid (rtake_any base q a b s.fs vs Ls w H.rs)
 have HBS:=hid hbs
 have HLL:=hid hl
 have HMM:=hid hM
 have HGD:=hid Gd
 clear H hM hbs Gd hl
 cases hlow:lowR s.fs with
 | some k=>
  have HT:=hid (show takC s=((k:Int),0,{ s with fs:=s.fs.set k one0 }) by unfold takC;rw [hlow])
  have ev:takeV s.fs=k:=by unfold takeV;rw [hlow]
  have ee:takeE s.fs=0:=by unfold takeE;rw [hlow]
  have es:takeS s.fs=s.fs.set k one0:=by unfold takeS;rw [hlow]
  have HHT:=hid (show HoldsB (s.fs.set k one0) (takeLs s.fs Ls) by have:=holds_take HH.out.hd;rw [es] at this;exact this)
  rw [ev,ee,es] at HTK
  rw [HT.out]
  clear ev ee es hlow
  go_enter Tryz.func37,Tryz.ntmps37
  go_wp2_with fail
  refine (HTK.out).mono ?_
  rintro e w1 ⟨rfl,hrs,he⟩
  have HR:=hid (HH.out.pool hrs HHT.out he (fun x e=>by cases e) (takeVs_old _) { s with fs:=s.fs.set k one0 } rfl rfl)
  clear hrs he c0 c1 c2 hdl
  go_wp2_with fail
  go_ret2
  exact ⟨rfl,_,_,_,HR.out⟩
 | none=>
  have ev:takeV s.fs=0:=by unfold takeV;rw [hlow]
  have ee:takeE s.fs=4:=by unfold takeE;rw [hlow]
  have es:takeS s.fs=s.fs:=by unfold takeS;rw [hlow]
  have evs:takeVs s.fs vs=vs:=by unfold takeVs;rw [hlow]
  have els:takeLs s.fs Ls=Ls:=by unfold takeLs;rw [hlow]
  rw [ev,ee,es,evs,els] at HTK
  have HLOW:=hid hlow
  clear ev ee es evs els hlow
  go_enter Tryz.func37,Tryz.ntmps37
  go_wp2_with fail
  refine (HTK.out).mono ?_
  rintro e w1 ⟨rfl,hrs,he⟩
  have HR1:=hid (HH.out.pool hrs HH.out.hd he (fun x e=>by cases e) (fun i hi x e=>.inl ⟨i,hi,e⟩) s rfl rfl)
  clear hrs he c0 c1 c2 hdl
  obtain ⟨c0,c1,c2⟩:=HR1.out.rc.row.three
  have hdl:=HR1.out.rc.row.lt
  obtain ⟨aX,cX,e9,hrk1⟩:=HR1.out.rc.slots
  cases e9
  have HLO:=hid (loose_any d q a b (.pointer (some ⟨G,0,none⟩)) (cnts s.fs) vs aL cL s.sl w1 HR1.out.rc.rs.rp HR1.out.rc.row hrk1 HLL.out)
  clear hrk1
  go_wp2_with fail
  refine (HLO.out).mono ?_
  rintro e w2 ⟨⟨r,rfl,hat⟩,hb2⟩
  have hfun:looR (cnts s.fs)=loB s.fs:=funext fun x=>looR_lo x
  rw [hfun] at hat
  have HR2:=hid (HR1.out.still hb2)
  clear hb2 hfun c0 c1 c2 hdl
  rcases hat with ⟨rfl,hno⟩|⟨j,hj,rfl,hq,hfnd⟩
  ·have HT:=hid (show takC s=(0,4,s) by unfold takC;rw [HLOW.out];simp only;rw [hno])
   clear hno
   go_wp2_with fail
   go_ret2
   exact ⟨by rw [HT.out];rfl,_,_,_,by rw [HT.out];exact HR2.out⟩
  ·have HT:=hid (show takC s=(takeV (downS s.fs s.sl[j].f),takeE (downS s.fs s.sl[j].f),{ s with fs:=takeS (downS s.fs s.sl[j].f),sl:=s.sl.eraseIdx j }) by
    unfold takC
    rw [HLOW.out]
    simp only
    rw [hfnd]
    simp only
    rw [strike_erase HGD.out.keys j hj])
   have d1:decide ((j:Int)<0)=false:=by simp
   obtain ⟨c0,c1,c2⟩:=HR2.out.rc.row.three
   have hdl:=HR2.out.rc.row.lt
   obtain ⟨aX,cX,e9,hrk2⟩:=HR2.out.rc.slots
   cases e9
   obtain ⟨bL,oL,rfl,hcell⟩:=hrk2.some_of (by simp;omega)
   have gq:=fun q hq=>hcell j (by simpa using hj) q hq
   have e9:(s.sl.map slC)[j]'(by simpa using hj)=slC s.sl[j]:=by simp
   rw [e9] at gq
   have g2:=gq 2 (by simp [slC])
   simp only [slC,List.getElem_cons_zero,List.getElem_cons_succ] at g2
   have hgl:=World.block_lt_of_cell? _ _ g2
   have i1:(0:Int)≤(j:Int):=by omega
   have i2:(j:Int)<(s.sl.length:Int):=by omega
   obtain ⟨y,hy⟩:∃ y,y=s.sl[j].f:=⟨_,rfl⟩
   rw [← hy] at g2
   have HTT:=hid (show takC s=(takeV (downS s.fs y),takeE (downS s.fs y),{ s with fs:=takeS (downS s.fs y),sl:=s.sl.eraseIdx j }) by rw [hy];exact HT.out)
   have HDN:=hid (rdown_any base q a b (cnts s.fs) vs Ls y w2.drew (HR2.out.rc.rs.below (bdN (Below.refl _ _) 1)) HMM.out)
   have HR2d:=hid (HR2.out.still (bdN (Below.refl _ _) 1))
   have HJ:=hid hj
   clear gq e9 hcell hrk2 hy hq hfnd HT
   go_wp2_with fail
   go_still_tail 12,(by kernel_rfl)
   show wpList _ _ _ _ _ w2.drew
   go_wp2_with fail
   refine (HDN.out).mono ?_
   rintro e w3 ⟨rfl,hrs3,he3⟩
   rw [rtk_zero H0.out]
   rw [cnts_down H0.out] at hrs3
   generalize takE s.fs y=te9
   have HR3:=hid (HR2d.out.rc.pool hrs3 (holds_down HH.out.hd y) he3 (fun x e=>by cases e) (fun i hi x e=>.inl ⟨i,hi,e⟩) { s with fs:=downS s.fs y } rfl rfl)
   clear hrs3 he3 c0 c1 c2 hdl g2 hgl
   obtain ⟨c0,c1,c2⟩:=HR3.out.rc.row.three
   have hdl:=HR3.out.rc.row.lt
   obtain ⟨aX,cX,e9,hrk3⟩:=HR3.out.rc.slots
   cases e9
   have HWO:=hid (without8_any (some ⟨bL,oL,none⟩) cL s.sl j w3 hrk3 HLL.out)
   clear hrk3
   go_wp2_with fail
   refine (HWO.out).mono ?_
   rintro e w4 ⟨v4,rfl,ho4,hb4⟩
   have hsz:base≤w3.heap.size:=Nat.le_trans HBS.out (((HR2d.out.andThen HR3.out).ex).size)
   obtain ⟨a4,c4,rfl⟩:=own_hdR ho4
   obtain ⟨w5,hw5⟩:∃ w5,w5=w4.setCell ⟨d,2,none⟩ (.slice a4 (s.sl.eraseIdx j).length c4):=⟨_,rfl⟩
   have HR4:=hid (HR3.out.rc.newL hb4 ho4 hsz { s with fs:=downS s.fs y,sl:=s.sl.eraseIdx j } rfl rfl)
   rw [← hw5] at HR4
   have hrow4:=HR3.out.rc.row.below hb4 HR3.out.rc.row.lt
   clear c0 c1 c2 hdl
   obtain ⟨c0,c1,c2⟩:=hrow4.three
   have hdl:=hrow4.lt
   have hf2:=hrow4.frozen 2
   have HTK5:=hid (rtake_any base q a b (downS s.fs y) vs Ls w5 HR4.out.rc.rs)
   have HW5:=hid hw5
   clear ho4 hb4 hsz hrow4 hw5
   go_wp2_with fail
   rw [← HW5.out]
   refine (HTK5.out).mono ?_
   rintro e w6 ⟨rfl,hrs6,he6⟩
   have HR6:=hid (HR4.out.rc.pool hrs6 (holds_take (holds_down HH.out.hd y)) he6 (fun x e=>by cases e) (takeVs_old _) { s with fs:=takeS (downS s.fs y),sl:=s.sl.eraseIdx j } rfl rfl)
   clear hrs6 he6 c0 c1 c2 hdl hf2
   obtain ⟨tv,htv⟩:∃ tv,tv=takeV (downS s.fs y):=⟨_,rfl⟩
   obtain ⟨te,hte⟩:∃ te,te=takeE (downS s.fs y):=⟨_,rfl⟩
   rw [← htv,← hte] at HTT
   rw [← htv,← hte]
   clear htv hte HTK5
   go_wp2_with fail
   go_ret2
   exact ⟨by rw [HTT.out];rfl,_,_,_,by rw [HTT.out];exact ((HR2d.out.andThen HR3.out).andThen HR4.out).andThen HR6.out⟩
/-- append(v, rows), and where the result lies. -/
theorem wpList_apKat {P:Program}{tS tE:TypeId}{k bytes:Nat}{z:Value}(hund:P.underlying tS=some (.slice tE))(hinfo:(P.info? tE).map (fun i=>(i.zero,i.size,i.bytes))=some (some z,k,bytes))(hzc:z.cells.size=k)(hkp:0<k)
 {w:World} {ops:Array Oper} {rest:List Oper} {o:Oper} {a:Act} {Q:Exit→Act→World→Prop} (hgd:o.guard=none) (s x:Operand)
 (ho:o.op=.call { callee:=.builtin .append,args:=#[s,x],argTypes:=#[tS,tS] })
 (base:Nat) (v:Value) (n:Nat) (rows news:List (List Value)) (hs:a.eval s=v) (ad:Addr) (m c:Nat) (hx:a.eval x=.slice (some ad) m c) (hown:w.ownsRow base tE k v n rows.flatten) (hy:Rk w k (some ad) m news) (hone:∀ r∈news,∀ u∈r,u.oneCell'=true) (hn:(n+m)*bytes≤140737488355328) (hm:n+m≤maxLen) (hbase:base≤w.heap.size)
 (h:∀ v' w',w'.ownsRow base tE k v' (n+m) (rows++news).flatten→w.grownBy w' v.ownBlock→(v'.ownBlock=v.ownBlock∨v'.ownBlock=some w.heap.size)→wpList P ops Q rest (a.put o.dst v') w'):
 wpList P ops Q (o::rest) a w:=by
 obtain ⟨i0,hi0,hz0,hz1,hz2⟩:=info_parts hinfo
 have hk:∀ r∈news,r.length=k:=fun r hr=>by
  obtain ⟨i,hi,rfl⟩:=List.getElem_of_mem hr
  exact hy.klen hi
 have hl:news.flatten.length=m*k:=by
  rw [← hy.hlen]
  exact flat_len hk
 refine wpList_append_own_at w hgd s x _ ho base _ i0 z k bytes hund hi0 hz0 hz1 hz2 hzc hkp v n _ hs hown ad m c news.flatten hx hl (hy.news hkp) (fun u hu=>?_) hm hn hbase ?_
 ·obtain ⟨r,hr,hu⟩:=List.mem_flatten.1 hu
  exact hone r hr u hu
 ·intro v' w' h1 h2 _ h4
  refine h v' w' ?_ h2 h4
  rw [List.flatten_append]
  exact h1
theorem b2i_map8 (l:List UInt8):(b2i l).map (Value.int .u8)=l.map B8:=by unfold b2i;rw [List.map_map];rfl
section
variable {base q a b G d:Nat}{vL:Value}{s:CC}{vs:List Value}{Ls:List (List Int)}{w w':World}
theorem RCW.lt8 (H:RCW w base q a b G d vL s vs Ls){k:Nat}(h:R8 a b d vs vL k):k<w.heap.size:=by
 rcases h with rfl|rfl|rfl|h|h
 ·exact H.rs.rp.cnts.lt
 ·exact H.rs.rp.bys.lt
 ·exact H.row.lt
 ·obtain ⟨ds,hr⟩:=old_row H h
  exact hr.lt
 ·exact (H.own.lt k h).2
end
/-- Where two operations are ready: both orders. -/
theorem sk_two {P:Program}{ops:Array Oper}{Q:Exit→Act→World→Prop}{md:Region.Mode}{S:World→Prop}{n:Nat}{i j:Nat}{oi oj:Oper}{f:Nat}{l:Array Bool}{a:Act}{w:World}(hr:Region.ready md ops l=[i,j])(hoi:ops[i]?=some oi)(hoj:ops[j]?=some oj)(inv:HeadInv md ops n l)
 (h1:∀ K:Act→World→Prop,Shut (∀ a w,(i<n→S w)→((i<n→HeadInv md ops n (l.setIfInBounds i true))→wpSk P md ops Q S n f (l.setIfInBounds i true) a w)→K a w)→if Region.wanted oi (yielded ops a.tmps)=true then Oper.wp P oi a w K Q else K (a.put oi.dst undef) w)
 (h2:∀ K:Act→World→Prop,Shut (∀ a w,(j<n→S w)→((j<n→HeadInv md ops n (l.setIfInBounds j true))→wpSk P md ops Q S n f (l.setIfInBounds j true) a w)→K a w)→if Region.wanted oj (yielded ops a.tmps)=true then Oper.wp P oj a w K Q else K (a.put oj.dst undef) w):
 wpSk P md ops Q S n (f+1) l a w:=by
 refine ⟨fun h0=>(by rw [hr] at h0;cases h0),fun k hk=>?_⟩
 have hk':=hk
 rw [hr,List.mem_cons,List.mem_singleton] at hk'
 rcases hk' with rfl|rfl
 ·exact wpOp_step hoi (fun K hK=>h1 K (fun a w hS hW=>hK a w ⟨hS,hW (fun hlt=>inv.set hk hlt)⟩))
 ·exact wpOp_step hoj (fun K hK=>h2 K (fun a w hS hW=>hK a w ⟨hS,hW (fun hlt=>inv.set hk hlt)⟩))
set_option maxRecDepth 100000 in
set_option maxHeartbeats 8000000 in
theorem rcget_any {hx:List Nat}(w0:World)(q a b G d:Nat)(L:List ND)(dd:Nat→Option Addr × Nat)(vL:Value)(s:CC)(vs:List Value)(Ls:List (List Int))(i pg:Int)(w:World)(H:RCW w w0.heap.size q a b G d vL s vs Ls)(HF:RF w0 G L dd)(hlow:Below w0.heap.size w0 w)(Gd:Good (rdP16 L) s hx)(hok:FsOk s.fs)(hl:s.sl.length≤1000000000)(hM:∀ c∈cnts s.fs,c<9223372036854775807):
 Calls Tryz.prog 38 #[.pointer (some ⟨d,0,none⟩),.int .i64 i,.int .i64 pg] w fun e w'=>e=.returned (.tuple #[.int .i64 (getC (rdP16 L) s i pg).1,.int .i64 (getC (rdP16 L) s i pg).2.1])∧∃ vL' vs' Ls',RSt w0.heap.size q a b G d vL vs w (getC (rdP16 L) s i pg).2.2 vL' vs' Ls' w':=by
 have HH:=hid H
 have HGD:=hid Gd
 have HLL:=hid hl
 have HMM:=hid hM
 have HOK:=hid hok
 have HLW:=hid hlow
 obtain ⟨aL,cL,rfl,_⟩:=H.slots
 obtain ⟨c0,c1,c2⟩:=H.row.three
 have hdl:=H.row.lt
 have HRD:=hid (rread_any G L dd i (pg*4096) 4096 w (HF.below hlow))
 clear H HF Gd hok hl hM hlow
 by_cases h1:pg<0
 ·have d1:decide (pg<0)=true:=decide_eq_true h1
  have HT:=hid (show getC (rdP16 L) s i pg=(0,1,s) by unfold getC;rw [if_pos (.inl h1)])
  rw [HT.out]
  clear h1
  go_enter Tryz.func38,Tryz.ntmps38
  go_wp2_with fail
  go_ret2
  exact ⟨rfl,_,_,_,RSt.refl HH.out⟩
 have d1:decide (pg<0)=false:=decide_eq_false h1
 by_cases h2:16≤pg
 ·have d2:decide (16≤pg)=true:=decide_eq_true h2
  have HT:=hid (show getC (rdP16 L) s i pg=(0,1,s) by unfold getC;rw [if_pos (.inr h2)])
  rw [HT.out]
  clear h1 h2
  go_enter Tryz.func38,Tryz.ntmps38
  go_wp2_with fail
  go_ret2
  exact ⟨rfl,_,_,_,RSt.refl HH.out⟩
 have d2:decide (16≤pg)=false:=decide_eq_false h2
 have ew:=IntWalk.wrap64_in (pg*4096) ⟨by omega,by omega⟩
 have HNP:=hid (show ¬ (pg<0∨16≤pg) by omega)
 obtain ⟨R,hR⟩:∃ R,R=rdP16 L i pg:=⟨_,rfl⟩
 have HRL:=hid (show R.1.length≤4096 by rw [hR];exact rdP16_len L i pg)
 have HRR:=hid hR
 rw [show readL L i (pg*4096) 4096=R from hR.symm] at HRD
 unfold RdPost at HRD
 have HBS:=hid HLW.out.size
 clear hR
 go_enter Tryz.func38,Tryz.ntmps38
 go_wp2_with fail
 refine (HRD.out).mono ?_
 rintro e w1 ⟨v1,rfl,ho1,hb1⟩
 have HO1:=hid ho1
 have HR1:=hid ((RSt.refl HH.out).still hb1)
 clear ho1 c0 c1 c2 hdl ew d1 d2 h1 h2
 by_cases h3:R.2=0
 rotate_left
 ·have d3:(R.2 != 0)=true:=by simpa using h3
  have HT:=hid (show getC (rdP16 L) s i pg=(0,R.2,s) by
   unfold getC
   rw [if_neg HNP.out,← HRR.out,if_pos h3])
  clear h3
  go_wp2_with fail
  go_ret2
  exact ⟨by rw [HT.out];rfl,_,_,_,by rw [HT.out];exact HR1.out⟩
 have d3:(R.2 != 0)=false:=by simpa using h3
 have HE0:=hid h3
 rw [h3]
 rw [h3] at d3
 obtain ⟨aX,cX,e9,hrk1⟩:=HR1.out.rc.slots
 cases e9
 have HFN:=hid (rfind_any d (.pointer (some ⟨q,0,none⟩)) (.pointer (some ⟨G,0,none⟩)) aL cL s.sl i pg w1 HR1.out.rc.row hrk1 HLL.out)
 clear hrk1 h3
 go_wp2_with fail
 refine (HFN.out).mono ?_
 rintro e w2 ⟨⟨r,rfl,hat⟩,hb2⟩
 have HR2:=hid (HR1.out.still hb2)
 have HO2:=hid (own_below HO1.out hb2)
 have HB2:=hid (hb1.trans (hb2.mono hb1.size))
 clear hb1 hb2
 obtain ⟨c0,c1,c2⟩:=HR2.out.rc.row.three
 have hdl:=HR2.out.rc.row.lt
 rcases hat with ⟨rfl,hno⟩|⟨j,hj,rfl,hq,hfnd⟩
 ·-- no slot: a frame is taken and filled
  have HNO:=hid hno
  have HTK:=hid (rctake_any w0.heap.size q a b G d (.slice aL s.sl.length cL) s vs Ls w2 HR2.out.rc HGD.out (Nat.le_trans HBS.out HB2.out.size) HLL.out HMM.out)
  clear hno
  go_wp2_with fail
  refine (HTK.out).mono ?_
  rintro e w3 ⟨rfl,vL3,vs3,Ls3,hr3⟩
  have HR3:=hid hr3
  clear hr3 c0 c1 c2 hdl
  rcases takC_case HGD.out with ⟨k,s1,ht,K⟩|⟨ht,_⟩
  rotate_left
  ·have HT:=hid (show getC (rdP16 L) s i pg=(0,4,s) by
    unfold getC filC
    rw [if_neg HNP.out,← HRR.out,if_neg (by simpa using HE0.out),show lookS s.sl i pg=none from HNO.out,ht]
    rfl)
   rw [ht] at HR3
   rw [ht]
   clear ht
   go_wp2_with fail
   go_ret2
   exact ⟨by rw [HT.out];rfl,_,_,_,by rw [HT.out];exact HR2.out.andThen HR3.out⟩
  have HKK:=hid K
  have hfo:=filC_ok ht K R.1 HRL.out
  have hnone:∀ x∈s1.sl,¬ (x.i=i∧x.p=pg):=fun x hx e=>by
   have h:=HNO.out
   rw [List.find?_eq_none] at h
   exact h x (K.sub.subset hx) (keyB_iff.2 e)
  have hld:loadE s1.fs (k:Int) 0 R.1.length=0:=by
   have h5:=hfo
   unfold filC at h5
   rw [ht] at h5
   simp only [if_true] at h5
   exact congrArg (fun z=>z.2.1) h5
  have HT:=hid (show getC (rdP16 L) s i pg=((k:Int),0,{ s1 with fs:=storeS s1.fs (k:Int) 0 (b2i R.1),sl:=s1.sl++[⟨i,pg,(k:Int),(s1.tn:Int)+1⟩],tn:=s1.tn+1 }) by
   unfold getC filC
   rw [if_neg HNP.out,← HRR.out,if_neg (by simpa using HE0.out),show lookS s.sl i pg=none from HNO.out,ht]
   simp only [if_true]
   rw [hld]
   simp only [if_true]
   rw [strike_none hnone])
  rw [ht] at HR3
  rw [ht]
  have hg3:=K.good HGD.out
  have hfs1:s1.fs=s.fs.set k one0:=K.fs
  have HOK1:=hid (show FsOk s1.fs from by
   rw [hfs1]
   intro x hx
   rcases List.mem_or_eq_of_mem_set hx with h|rfl
   ·exact HOK.out x h
   ·exact one0_len)
  have HL1:=hid (show s1.sl.length≤1000000000 from Nat.le_trans K.sub.length_le HLL.out)
  obtain ⟨ba,bc,rfl,hnum⟩:=own_nums (show w2.ownsRow w.heap.size 5 1 v1 R.1.length ((b2i R.1).map (Value.int .u8)) from by rw [b2i_map8];exact HO2.out)
  have hnr:∀ g,(Value.slice ba R.1.length bc).ownBlock=some g→¬ R8 a b d vs (.slice aL s.sl.length cL) g:=fun g e h=>by
   have h6:=HH.out.lt8 h
   have h7:=own_low HO2.out (Nat.le_refl _) g e
   omega
  have HO3:=hid (HR3.out.ex.own HO2.out hnr)
  have HNO3:=hid (show ∀ g,(Value.slice ba R.1.length bc).ownBlock=some g→¬ R8 a b d vs3 vL3 g from fun g e h=>by
   have h6:=HR3.out.al g (HO2.out.lt g e).2 h
   exact hnr g e h6)
  have hnums:∀ W,W.ownsRow w.heap.size 5 1 (.slice ba R.1.length bc) R.1.length (R.1.map B8)→Nums W .u8 ba R.1.length (b2i R.1):=fun W h=>by
   obtain ⟨a9,c9,e9,hn9⟩:=own_nums (show W.ownsRow w.heap.size 5 1 (.slice ba R.1.length bc) R.1.length ((b2i R.1).map (Value.int .u8)) from by rw [b2i_map8];exact h)
   cases e9
   exact hn9
  have HST:=hid (rstoreR_any w0.heap.size q a b s1.fs vs3 Ls3 (k:Int) 0 ba R.1.length bc (b2i R.1) w3 HR3.out.rc.rs HOK1.out HR3.out.rc.h0 HR3.out.rc.hd (hnums w3 HO3.out) (fun W X he hX hpos=>hnums W (he.own HO3.out (fun e=>HNO3.out _ e (.inl rfl)) (fun e=>HNO3.out _ e (.inr (.inl rfl))) (fun x e e2=>HNO3.out _ e (.inr (.inr (.inr (.inl (hX x e2)))))))) (Nat.le_trans HBS.out (Nat.le_trans HB2.out.size HR3.out.ex.size)) (by have:=HRL.out;omega))
  rw [hld] at HST
  obtain ⟨c0,c1,c2⟩:=HR3.out.rc.row.three
  have hdl:=HR3.out.rc.row.lt
  clear ht K hfo hnone hld hg3 hfs1 hnum hnr hnums
  go_wp2_with fail
  refine (HST.out).mono ?_
  rintro e w4 ⟨rfl,vs4,Ls4,hrs4,hh4,_,_,⟨X,he4,hX4⟩,hal4⟩
  have HR4:=hid (HR3.out.rc.pool hrs4 hh4 he4 hX4 hal4 { s1 with fs:=storeS s1.fs (k:Int) 0 (b2i R.1) } rfl rfl)
  clear hrs4 hh4 he4 hX4 hal4 c0 c1 c2 hdl
  obtain ⟨c0,c1,c2⟩:=HR4.out.rc.row.three
  have hdl:=HR4.out.rc.row.lt
  have hf2:=HR4.out.rc.row.frozen 2
  obtain ⟨aX,cX,e9,_⟩:=HR4.out.rc.slots
  simp only at e9
  subst e9
  have hsz4:w0.heap.size≤w4.heap.size:=Nat.le_trans HBS.out (Nat.le_trans HB2.out.size (Nat.le_trans HR3.out.ex.size HR4.out.ex.size))
  have HSZ4:=hid hsz4
  have HSF:=hid (slo_f ⟨i,pg,(k:Int),(s1.tn:Int)+1⟩ HR4.out.rc.own hsz4)
  have HON:=hid (show ∀ r∈[slC ⟨i,pg,(k:Int),(s1.tn:Int)+1⟩],∀ u∈r,u.oneCell'=true from fun r hr=>by rw [List.mem_singleton.1 hr];exact slC_one _)
  have HN1:=hid (show (s1.sl.length+1)*24≤140737488355328 by have:=HL1.out;omega)
  have HN2:=hid (show s1.sl.length+1≤maxLen by have:=HL1.out;unfold maxLen;omega)
  have HNT:=hid (show 152≠175 by decide)
  clear hsz4
  go_wp2_with (at_builtin;go_must (refine wpList_apKat Tryz.underlying150 infoSlotR rfl (by decide) rfl _ _ rfl w0.heap.size (.slice aX s1.sl.length cX) s1.sl.length (s1.sl.map slC) [slC ⟨i,pg,(k:Int),(s1.tn:Int)+1⟩] rfl ⟨_,0,none⟩ 1 1 rfl HSF.out.own HSF.out.rk HON.out HN1.out HN2.out HSF.out.size ?_;intro v5 w5 hown5 hgrow5 hat5;obtain ⟨a5,c5,rfl⟩:=own_hdR hown5;have HG5:=hid hgrow5;have HAT5:=hid hat5;have HO5:=hid hown5;have HE5:=hid ((EX.of_below (bal _)).trans (EX.of_grown hgrow5 fun k e _=>e):EX (fun k=>(Value.slice aX s1.sl.length cX).ownBlock=some k) w4 w5);have hr5:=HE5.out.row HR4.out.rc.row (fun e=>own_row_neK HR4.out.rc.own HR4.out.rc.row HNT.out e.symm);have HROW5:=hid hr5;have z5:=hr5.frozen 2;have g52:=hr5.cell' 2;have l5:=hr5.lt;clear hown5 hgrow5 hat5 hr5))
  have HA:=hid (HR4.out.rc.appL HE5.out (own_ext HO5.out (by simp) (by simp)) (fun x e=>by
   rcases HAT5.out with h|h
   ·exact .inl (h.symm.trans e)
   ·rw [h] at e
    have:=Option.some.inj e
    rw [World.size_alloc] at this
    exact .inr (by omega)) { s1 with fs:=storeS s1.fs (k:Int) 0 (b2i R.1),sl:=s1.sl++[⟨i,pg,(k:Int),(s1.tn:Int)+1⟩],tn:=s1.tn+1 } rfl rfl)
  go_ret2
  exact ⟨by rw [HT.out];rfl,_,_,_,by rw [HT.out];exact ((HR2.out.andThen HR3.out).andThen HR4.out).andThen HA.out⟩
 ·-- a slot
  have hk2:=keyB_iff.1 hq
  have HT:=hid (show getC (rdP16 L) s i pg=(s.sl[j].f,0,{ s with sl:=s.sl.eraseIdx j++[⟨s.sl[j].i,s.sl[j].p,s.sl[j].f,(s.tn:Int)+1⟩],tn:=s.tn+1 }) by
   unfold getC
   rw [if_neg HNP.out,← HRR.out,if_neg (by simpa using HE0.out),show lookS s.sl i pg=some s.sl[j] from hfnd]
   simp only
   have:=strike_erase HGD.out.keys j hj
   rw [hk2.1,hk2.2] at this ⊢
   rw [this])
  have d4:decide ((0:Int)≤(j:Int))=true:=by simp
  obtain ⟨aX,cX,e9,hrk2⟩:=HR2.out.rc.slots
  cases e9
  have HWO:=hid (fun W (hs:Below w2.heap.size w2 W)=>without8_any aL cL s.sl j W (hrk2.below' hs) HLL.out)
  obtain ⟨bL,oL,rfl,hcell⟩:=hrk2.some_of (by simp;omega)
  have gq:=fun q hq=>hcell j (by simpa using hj) q hq
  have e9:(s.sl.map slC)[j]'(by simpa using hj)=slC s.sl[j]:=by simp
  rw [e9] at gq
  have g0:=gq 0 (by simp [slC])
  have g1:=gq 1 (by simp [slC])
  have g2:=gq 2 (by simp [slC])
  simp only [slC,List.getElem_cons_zero,List.getElem_cons_succ,Nat.add_zero] at g0 g1 g2
  have hgl:=World.block_lt_of_cell? _ _ g2
  have i1:(0:Int)≤(j:Int):=by omega
  have i2:(j:Int)<(s.sl.length:Int):=by omega
  obtain ⟨y,hy⟩:∃ y,y=s.sl[j]:=⟨_,rfl⟩
  rw [← hy] at g0 g1 g2 HT
  have HEL:=hid (List.length_eraseIdx_le s.sl j)
  obtain ⟨w3,hw3⟩:∃ w3,w3=w2.alloc (.cells #[.int .i64 y.i,.int .i64 y.p,.int .i64 y.f] 175):=⟨_,rfl⟩
  have HB3:=hid (show Below w2.heap.size w2 w3 by rw [hw3];exact bal _)
  have HRB3:=hid (show Row w3 w2.heap.size 175 [.int .i64 y.i,.int .i64 y.p,.int .i64 y.f] by rw [hw3];exact Row.new _ _ _)
  have HR3:=hid (HR2.out.still HB3.out)
  have HW3:=hid hw3
  have HBS3:=hid (show w0.heap.size≤w3.heap.size from Nat.le_trans HBS.out (Nat.le_trans HB2.out.size HB3.out.size))
  clear gq e9 hcell hrk2 hy hq hfnd hk2 hw3
  have m0:=HRB3.out.cell 0 (by simp)
  have m1:=HRB3.out.cell 1 (by simp)
  have m2:=HRB3.out.cell 2 (by simp)
  have ml:=HRB3.out.lt
  simp only [List.getElem_cons_zero,List.getElem_cons_succ] at m0 m1 m2
  go_upto_region 11 with fail
  rw [← HW3.out]
  clear c0 c1 c2 hdl g0 g1 g2 hgl
  obtain ⟨c0,c1,c2⟩:=HR3.out.rc.row.three
  have hdl:=HR3.out.rc.row.lt
  go_wp2_with fail
  have hS:(((fun ww:World=>ww.cell? ⟨d,2,none⟩=some (.slice (some ⟨bL,oL,none⟩) s.sl.length cL)∧ww.cell? ⟨w2.heap.size,0,none⟩=some (.int .i64 y.i)∧ww.cell? ⟨w2.heap.size,1,none⟩=some (.int .i64 y.p)∧ww.cell? ⟨w2.heap.size,2,none⟩=some (.int .i64 y.f)∧d<ww.heap.size∧w2.heap.size<ww.heap.size)) w3.drew):=⟨c2,m0,m1,m2,hdl,ml⟩
  refine region_sk 12 (fun ww:World=>ww.cell? ⟨d,2,none⟩=some (.slice (some ⟨bL,oL,none⟩) s.sl.length cL)∧ww.cell? ⟨w2.heap.size,0,none⟩=some (.int .i64 y.i)∧ww.cell? ⟨w2.heap.size,1,none⟩=some (.int .i64 y.p)∧ww.cell? ⟨w2.heap.size,2,none⟩=some (.int .i64 y.f)∧d<ww.heap.size∧w2.heap.size<ww.heap.size) (by kernel_rfl) (fun inv=>?_)
  refine sk_take (i:=0) (v:=?_) (some 48) rfl rfl (by kernel_rfl) (by kernel_rfl) (by decide) (by decide) inv (by kernel_rfl) (by kernel_rfl) (fun _ _ _ h=>h) (Or.inl ⟨by rfl,?_⟩) hS (fun inv=>?_)
  rotate_left
  ·intro ww hSw
   obtain ⟨hSa,hSb,hSc,hSd,hSe,hSf⟩:=hSw
   go_simp
   try with_reducible rfl
  simp only [Act.put,List.setIfInBounds_toArray,List.set_cons_zero,List.set_cons_succ]
  refine sk_take (i:=1) (v:=?_) (some 49) rfl rfl (by kernel_rfl) (by kernel_rfl) (by decide) (by decide) inv (by kernel_rfl) (by kernel_rfl) (fun _ _ _ h=>h) (Or.inl ⟨by rfl,?_⟩) hS (fun inv=>?_)
  rotate_left
  ·intro ww hSw
   obtain ⟨hSa,hSb,hSc,hSd,hSe,hSf⟩:=hSw
   go_simp
   try with_reducible rfl
  simp only [Act.put,List.setIfInBounds_toArray,List.set_cons_zero,List.set_cons_succ]
  refine sk_take (i:=2) (v:=?_) (some 50) rfl rfl (by kernel_rfl) (by kernel_rfl) (by decide) (by decide) inv (by kernel_rfl) (by kernel_rfl) (fun _ _ _ h=>h) (Or.inl ⟨by rfl,?_⟩) hS (fun inv=>?_)
  rotate_left
  ·intro ww hSw
   obtain ⟨hSa,hSb,hSc,hSd,hSe,hSf⟩:=hSw
   go_simp
   try with_reducible rfl
  simp only [Act.put,List.setIfInBounds_toArray,List.set_cons_zero,List.set_cons_succ]
  refine sk_take (i:=3) (v:=?_) (some 51) rfl rfl (by kernel_rfl) (by kernel_rfl) (by decide) (by decide) inv (by kernel_rfl) (by kernel_rfl) (fun _ _ _ h=>h) (Or.inl ⟨by rfl,?_⟩) hS (fun inv=>?_)
  rotate_left
  ·intro ww hSw
   obtain ⟨hSa,hSb,hSc,hSd,hSe,hSf⟩:=hSw
   go_simp
   try with_reducible rfl
  simp only [Act.put,List.setIfInBounds_toArray,List.set_cons_zero,List.set_cons_succ]
  refine sk_take (i:=4) (v:=?_) (some 52) rfl rfl (by kernel_rfl) (by kernel_rfl) (by decide) (by decide) inv (by kernel_rfl) (by kernel_rfl) (fun _ _ _ h=>h) (Or.inl ⟨by rfl,?_⟩) hS (fun inv=>?_)
  rotate_left
  ·intro ww hSw
   obtain ⟨hSa,hSb,hSc,hSd,hSe,hSf⟩:=hSw
   go_simp
   try with_reducible rfl
  simp only [Act.put,List.setIfInBounds_toArray,List.set_cons_zero,List.set_cons_succ]
  refine sk_take (i:=5) (v:=?_) (some 53) rfl rfl (by kernel_rfl) (by kernel_rfl) (by decide) (by decide) inv (by kernel_rfl) (by kernel_rfl) (fun _ _ _ h=>h) (Or.inl ⟨by rfl,?_⟩) hS (fun inv=>?_)
  rotate_left
  ·intro ww hSw
   obtain ⟨hSa,hSb,hSc,hSd,hSe,hSf⟩:=hSw
   go_simp
   try with_reducible rfl
  simp only [Act.put,List.setIfInBounds_toArray,List.set_cons_zero,List.set_cons_succ]
  refine sk_take (i:=7) (v:=?_) (some 55) rfl rfl (by kernel_rfl) (by kernel_rfl) (by decide) (by decide) inv (by kernel_rfl) (by kernel_rfl) (fun _ _ _ h=>h) (Or.inl ⟨by rfl,?_⟩) hS (fun inv=>?_)
  rotate_left
  ·intro ww hSw
   obtain ⟨hSa,hSb,hSc,hSd,hSe,hSf⟩:=hSw
   go_simp
   try with_reducible rfl
  simp only [Act.put,List.setIfInBounds_toArray,List.set_cons_zero,List.set_cons_succ]
  refine sk_two (i:=6) (j:=8) (by kernel_rfl) rfl rfl inv (fun K hK=>?_) (fun K hK=>?_)
  ·have HBX:=hid (show Below w3.heap.size w3 w3.drew from bdN (Below.refl _ _) 1)
   rw [if_pos (by rfl)]
   go_simp
   refine (HWO.out w3.drew (HB3.out.trans (HBX.out.mono HB3.out.size))).mono ?_
   rintro e' wc ⟨v4,rfl,ho4,hb4⟩
   have HOc:=hid (own_from ho4 HBX.out.size:wc.ownsRow w3.heap.size 175 3 v4 (s.sl.eraseIdx j).length ((s.sl.eraseIdx j).map slC).flatten)
   have HBc:=hid (show Below w3.heap.size w3 wc from HBX.out.trans (hb4.mono HBX.out.size))
   have HBL:=hid hb4
   have HRc:=hid (HR3.out.rc.below HBc.out)
   have HRBc:=hid (HRB3.out.below HBc.out HRB3.out.lt)
   obtain ⟨a4,c4,rfl⟩:=own_hdR ho4
   have hS:(((fun ww:World=>ww.cell? ⟨d,2,none⟩=some (.slice (some ⟨bL,oL,none⟩) s.sl.length cL)∧ww.cell? ⟨w2.heap.size,0,none⟩=some (.int .i64 y.i)∧ww.cell? ⟨w2.heap.size,1,none⟩=some (.int .i64 y.p)∧ww.cell? ⟨w2.heap.size,2,none⟩=some (.int .i64 y.f)∧d<ww.heap.size∧w2.heap.size<ww.heap.size)) wc):=⟨HRc.out.row.cell 2 (by simp),HRBc.out.cell 0 (by simp),HRBc.out.cell 1 (by simp),HRBc.out.cell 2 (by simp),HRc.out.row.lt,HRBc.out.lt⟩
   clear ho4 hb4
   clear c0 c1 c2 hdl m0 m1 m2 ml
   refine hK.out _ _ (fun _=>hS) (fun inv=>?_)
   have inv:=inv (by decide)
   clear hK K
   try simp only [Act.put,List.setIfInBounds_toArray,List.set_cons_zero,List.set_cons_succ]
   refine sk_one (i:=8) (by kernel_rfl) rfl inv (fun K hK=>?_)
   rw [if_pos (by rfl)]
   go_simp
   obtain ⟨w5,hw5⟩:∃ w5,w5=wc.alloc (.cells #[.int .i64 y.i,.int .i64 y.p,.int .i64 y.f] 175):=⟨_,rfl⟩
   have HA5:=hid (show Below wc.heap.size wc w5 by rw [hw5];exact bal _)
   have HRK5:=hid (show Rk w5 3 (some ⟨wc.heap.size,0,none⟩) 1 [slC y] by rw [hw5];exact rk_new wc _ (slC y) rfl)
   have HB5:=hid (show Below w3.heap.size w3 w5 from HBc.out.trans (HA5.out.mono HBc.out.size))
   have hR5:=HR3.out.rc.row.below HB5.out HR3.out.rc.row.lt
   have hRB5:=HRB3.out.below HB5.out HRB3.out.lt
   have hS:(((fun ww:World=>ww.cell? ⟨d,2,none⟩=some (.slice (some ⟨bL,oL,none⟩) s.sl.length cL)∧ww.cell? ⟨w2.heap.size,0,none⟩=some (.int .i64 y.i)∧ww.cell? ⟨w2.heap.size,1,none⟩=some (.int .i64 y.p)∧ww.cell? ⟨w2.heap.size,2,none⟩=some (.int .i64 y.f)∧d<ww.heap.size∧w2.heap.size<ww.heap.size)) w5):=⟨hR5.cell 2 (by simp),hRB5.cell 0 (by simp),hRB5.cell 1 (by simp),hRB5.cell 2 (by simp),hR5.lt,hRB5.lt⟩
   rw [← hw5]
   clear hw5 hR5 hRB5
   refine hK.out _ _ (fun _=>hS) (fun inv=>?_)
   have inv:=inv (by decide)
   clear hK K
   try simp only [Act.put,List.setIfInBounds_toArray,List.set_cons_zero,List.set_cons_succ]
   have HOF:=hid (show w5.ownsRow w3.heap.size 175 3 (.slice a4 (s.sl.eraseIdx j).length c4) (s.sl.eraseIdx j).length ((s.sl.eraseIdx j).map slC).flatten from own_below HOc.out HA5.out)
   have HRF:=hid (show Rk w5 3 (some ⟨wc.heap.size,0,none⟩) 1 [slC y] from HRK5.out)
   have HBF:=hid (show Below w3.heap.size w3 w5 from HB5.out)
   obtain ⟨i0,hi0,hz0,hz1,hz2⟩:=info_parts infoSlotR
   refine sk_one (i:=9) (by kernel_rfl) rfl inv (fun K hK=>?_)
   refine step_append_lies _ (by rfl) _ _ 150 (by rfl) w3.heap.size 175 i0 _ 3 24 Tryz.underlying150 hi0 hz0 hz1 hz2 rfl (by decide) (.slice a4 (s.sl.eraseIdx j).length c4) (s.sl.eraseIdx j).length ((s.sl.eraseIdx j).map slC).flatten (by rfl) HOF.out ⟨wc.heap.size,0,none⟩ 1 1 (slC y) (by rfl) (by rfl) (by have:=HRF.out.news (by decide);rw [List.flatten_cons,List.flatten_nil,List.append_nil] at this;exact this) (slC_one y) (by decide) (by have:=HLL.out;have:=HEL.out;unfold maxLen;omega) (by have:=HLL.out;have:=HEL.out;omega) HBF.out.size w5.heap.size rfl ?_
   intro gg cap w6 hown hgrow hat hlt
   have HO6:=hid hown
   have HE6:=hid (EX.of_grown hgrow (fun k e _=>e):EX (fun k=>(Value.slice a4 (s.sl.eraseIdx j).length c4).ownBlock=some k) w5 w6)
   have HB6:=hid (show Below w3.heap.size w3 w6 from HE6.out.below HBF.out (fun k e=>own_low HOF.out (Nat.le_refl _) k e) HBF.out.size)
   have hR6:=HR3.out.rc.row.below HB6.out HR3.out.rc.row.lt
   have hRB6:=HRB3.out.below HB6.out HRB3.out.lt
   have hS:(((fun ww:World=>ww.cell? ⟨d,2,none⟩=some (.slice (some ⟨bL,oL,none⟩) s.sl.length cL)∧ww.cell? ⟨w2.heap.size,0,none⟩=some (.int .i64 y.i)∧ww.cell? ⟨w2.heap.size,1,none⟩=some (.int .i64 y.p)∧ww.cell? ⟨w2.heap.size,2,none⟩=some (.int .i64 y.f)∧d<ww.heap.size∧w2.heap.size<ww.heap.size)) w6):=⟨hR6.cell 2 (by simp),hRB6.cell 0 (by simp),hRB6.cell 1 (by simp),hRB6.cell 2 (by simp),hR6.lt,hRB6.lt⟩
   have HROW6:=hid hR6
   have HRB6:=hid hRB6
   clear hown hgrow hat hlt hR6 hRB6
   refine hK.out _ _ (fun _=>hS) (fun inv=>?_)
   have inv:=inv (by decide)
   clear hK K
   try simp only [Act.put,List.setIfInBounds_toArray]
   refine sk_take (i:=10) (v:=?_) (some 58) rfl rfl (by kernel_rfl) (by kernel_rfl) (by decide) (by decide) inv (by kernel_rfl) (by kernel_rfl) (fun _ _ _ h=>h) (Or.inl ⟨by rfl,?_⟩) hS (fun inv=>?_)
   rotate_left
   ·intro ww hSw
    obtain ⟨hSa,hSb,hSc,hSd,hSe,hSf⟩:=hSw
    go_simp
    try with_reducible rfl
   simp only [Act.put]
   refine sk_take (i:=11) (v:=?_) (some 59) rfl rfl (by kernel_rfl) (by kernel_rfl) (by decide) (by decide) inv (by kernel_rfl) (by kernel_rfl) (fun _ _ _ h=>h) (Or.inl ⟨by rfl,?_⟩) hS (fun inv=>?_)
   rotate_left
   ·intro ww hSw
    obtain ⟨hSa,hSb,hSc,hSd,hSe,hSf⟩:=hSw
    go_simp
    try with_reducible rfl
   simp only [Act.put]
   have h6f:=HROW6.out.frozen 2
   refine sk_one (i:=12) (by kernel_rfl) rfl inv (fun K hK=>?_)
   rw [if_pos (by rfl)]
   obtain ⟨hSa,hSb,hSc,hSd,hSe,hSf⟩:=hS
   go_simp
   refine hK.out _ _ (fun h=>absurd h (by decide)) (fun _=>?_)
   clear hK K
   refine sk_done (by kernel_rfl) ?_ _
   have HA:=hid (HR3.out.rc.newL (l':=s.sl.eraseIdx j++[⟨y.i,y.p,y.f,(s.tn:Int)+1⟩]) HB6.out (own_ext HO6.out (by simp) (by simp [slC])) HBS3.out { s with sl:=s.sl.eraseIdx j++[⟨y.i,y.p,y.f,(s.tn:Int)+1⟩],tn:=s.tn+1 } rfl rfl)
   have HRB7:=hid (HRB6.out.other (a:=⟨d,2,none⟩) (fun e=>row_tys HRB6.out HROW6.out (by decide) e) (.slice (some ⟨gg,0,none⟩) ((s.sl.eraseIdx j).length+1) cap))
   have n0:=HRB7.out.cell 0 (by simp)
   have n1:=HRB7.out.cell 1 (by simp)
   have n2:=HRB7.out.cell 2 (by simp)
   have nl:=HRB7.out.lt
   simp only [List.getElem_cons_zero,List.getElem_cons_succ] at n0 n1 n2
   clear h6f hSa hSb hSc hSd hSe hSf
   go_wp2_with fail
   go_ret2
   have hA:=HA.out
   exact ⟨by rw [HT.out];rfl,_,_,_,by rw [HT.out];exact HR3.out.andThen hA⟩
  ·have HBD:=hid (show Below w3.heap.size w3 w3 from Below.refl _ _)
   rw [if_pos (by rfl)]
   go_simp
   obtain ⟨wa,hw5⟩:∃ wa,wa=(w3.alloc (.cells #[.int .i64 y.i,.int .i64 y.p,.int .i64 y.f] 175)).drew:=⟨_,rfl⟩
   have HA5:=hid (show Below w3.heap.size w3 wa by rw [hw5];exact bdN (bal _) 1)
   have HRK5:=hid (show Rk wa 3 (some ⟨w3.heap.size,0,none⟩) 1 [slC y] by rw [hw5];exact (rk_new w3 _ (slC y) rfl).below' (bdN (Below.refl _ _) 1))
   have HB5:=hid (show Below w3.heap.size w3 wa from HBD.out.trans (HA5.out.mono HBD.out.size))
   have hR5:=HR3.out.rc.row.below HB5.out HR3.out.rc.row.lt
   have hRB5:=HRB3.out.below HB5.out HRB3.out.lt
   have hS:(((fun ww:World=>ww.cell? ⟨d,2,none⟩=some (.slice (some ⟨bL,oL,none⟩) s.sl.length cL)∧ww.cell? ⟨w2.heap.size,0,none⟩=some (.int .i64 y.i)∧ww.cell? ⟨w2.heap.size,1,none⟩=some (.int .i64 y.p)∧ww.cell? ⟨w2.heap.size,2,none⟩=some (.int .i64 y.f)∧d<ww.heap.size∧w2.heap.size<ww.heap.size)) wa):=⟨hR5.cell 2 (by simp),hRB5.cell 0 (by simp),hRB5.cell 1 (by simp),hRB5.cell 2 (by simp),hR5.lt,hRB5.lt⟩
   rw [← hw5]
   clear hw5 hR5 hRB5
   clear c0 c1 c2 hdl m0 m1 m2 ml
   refine hK.out _ _ (fun _=>hS) (fun inv=>?_)
   have inv:=inv (by decide)
   clear hK K
   try simp only [Act.put,List.setIfInBounds_toArray,List.set_cons_zero,List.set_cons_succ]
   refine sk_one (i:=6) (by kernel_rfl) rfl inv (fun K hK=>?_)
   have HBX:=hid (show Below w3.heap.size w3 wa from HB5.out)
   rw [if_pos (by rfl)]
   go_simp
   refine (HWO.out wa (HB3.out.trans (HBX.out.mono HB3.out.size))).mono ?_
   rintro e' wc ⟨v4,rfl,ho4,hb4⟩
   have HOc:=hid (own_from ho4 HBX.out.size:wc.ownsRow w3.heap.size 175 3 v4 (s.sl.eraseIdx j).length ((s.sl.eraseIdx j).map slC).flatten)
   have HBc:=hid (show Below w3.heap.size w3 wc from HBX.out.trans (hb4.mono HBX.out.size))
   have HBL:=hid hb4
   have HRc:=hid (HR3.out.rc.below HBc.out)
   have HRBc:=hid (HRB3.out.below HBc.out HRB3.out.lt)
   obtain ⟨a4,c4,rfl⟩:=own_hdR ho4
   have hS:(((fun ww:World=>ww.cell? ⟨d,2,none⟩=some (.slice (some ⟨bL,oL,none⟩) s.sl.length cL)∧ww.cell? ⟨w2.heap.size,0,none⟩=some (.int .i64 y.i)∧ww.cell? ⟨w2.heap.size,1,none⟩=some (.int .i64 y.p)∧ww.cell? ⟨w2.heap.size,2,none⟩=some (.int .i64 y.f)∧d<ww.heap.size∧w2.heap.size<ww.heap.size)) wc):=⟨HRc.out.row.cell 2 (by simp),HRBc.out.cell 0 (by simp),HRBc.out.cell 1 (by simp),HRBc.out.cell 2 (by simp),HRc.out.row.lt,HRBc.out.lt⟩
   clear ho4 hb4
   refine hK.out _ _ (fun _=>hS) (fun inv=>?_)
   have inv:=inv (by decide)
   clear hK K
   try simp only [Act.put,List.setIfInBounds_toArray,List.set_cons_zero,List.set_cons_succ]
   have HOF:=hid (show wc.ownsRow w3.heap.size 175 3 (.slice a4 (s.sl.eraseIdx j).length c4) (s.sl.eraseIdx j).length ((s.sl.eraseIdx j).map slC).flatten from HOc.out)
   have HRF:=hid (show Rk wc 3 (some ⟨w3.heap.size,0,none⟩) 1 [slC y] from HRK5.out.below' HBL.out)
   have HBF:=hid (show Below w3.heap.size w3 wc from HBc.out)
   obtain ⟨i0,hi0,hz0,hz1,hz2⟩:=info_parts infoSlotR
   refine sk_one (i:=9) (by kernel_rfl) rfl inv (fun K hK=>?_)
   refine step_append_lies _ (by rfl) _ _ 150 (by rfl) w3.heap.size 175 i0 _ 3 24 Tryz.underlying150 hi0 hz0 hz1 hz2 rfl (by decide) (.slice a4 (s.sl.eraseIdx j).length c4) (s.sl.eraseIdx j).length ((s.sl.eraseIdx j).map slC).flatten (by rfl) HOF.out ⟨w3.heap.size,0,none⟩ 1 1 (slC y) (by rfl) (by rfl) (by have:=HRF.out.news (by decide);rw [List.flatten_cons,List.flatten_nil,List.append_nil] at this;exact this) (slC_one y) (by decide) (by have:=HLL.out;have:=HEL.out;unfold maxLen;omega) (by have:=HLL.out;have:=HEL.out;omega) HBF.out.size wc.heap.size rfl ?_
   intro gg cap w6 hown hgrow hat hlt
   have HO6:=hid hown
   have HE6:=hid (EX.of_grown hgrow (fun k e _=>e):EX (fun k=>(Value.slice a4 (s.sl.eraseIdx j).length c4).ownBlock=some k) wc w6)
   have HB6:=hid (show Below w3.heap.size w3 w6 from HE6.out.below HBF.out (fun k e=>own_low HOF.out (Nat.le_refl _) k e) HBF.out.size)
   have hR6:=HR3.out.rc.row.below HB6.out HR3.out.rc.row.lt
   have hRB6:=HRB3.out.below HB6.out HRB3.out.lt
   have hS:(((fun ww:World=>ww.cell? ⟨d,2,none⟩=some (.slice (some ⟨bL,oL,none⟩) s.sl.length cL)∧ww.cell? ⟨w2.heap.size,0,none⟩=some (.int .i64 y.i)∧ww.cell? ⟨w2.heap.size,1,none⟩=some (.int .i64 y.p)∧ww.cell? ⟨w2.heap.size,2,none⟩=some (.int .i64 y.f)∧d<ww.heap.size∧w2.heap.size<ww.heap.size)) w6):=⟨hR6.cell 2 (by simp),hRB6.cell 0 (by simp),hRB6.cell 1 (by simp),hRB6.cell 2 (by simp),hR6.lt,hRB6.lt⟩
   have HROW6:=hid hR6
   have HRB6:=hid hRB6
   clear hown hgrow hat hlt hR6 hRB6
   refine hK.out _ _ (fun _=>hS) (fun inv=>?_)
   have inv:=inv (by decide)
   clear hK K
   try simp only [Act.put,List.setIfInBounds_toArray]
   refine sk_take (i:=10) (v:=?_) (some 58) rfl rfl (by kernel_rfl) (by kernel_rfl) (by decide) (by decide) inv (by kernel_rfl) (by kernel_rfl) (fun _ _ _ h=>h) (Or.inl ⟨by rfl,?_⟩) hS (fun inv=>?_)
   rotate_left
   ·intro ww hSw
    obtain ⟨hSa,hSb,hSc,hSd,hSe,hSf⟩:=hSw
    go_simp
    try with_reducible rfl
   simp only [Act.put]
   refine sk_take (i:=11) (v:=?_) (some 59) rfl rfl (by kernel_rfl) (by kernel_rfl) (by decide) (by decide) inv (by kernel_rfl) (by kernel_rfl) (fun _ _ _ h=>h) (Or.inl ⟨by rfl,?_⟩) hS (fun inv=>?_)
   rotate_left
   ·intro ww hSw
    obtain ⟨hSa,hSb,hSc,hSd,hSe,hSf⟩:=hSw
    go_simp
    try with_reducible rfl
   simp only [Act.put]
   have h6f:=HROW6.out.frozen 2
   refine sk_one (i:=12) (by kernel_rfl) rfl inv (fun K hK=>?_)
   rw [if_pos (by rfl)]
   obtain ⟨hSa,hSb,hSc,hSd,hSe,hSf⟩:=hS
   go_simp
   refine hK.out _ _ (fun h=>absurd h (by decide)) (fun _=>?_)
   clear hK K
   refine sk_done (by kernel_rfl) ?_ _
   have HA:=hid (HR3.out.rc.newL (l':=s.sl.eraseIdx j++[⟨y.i,y.p,y.f,(s.tn:Int)+1⟩]) HB6.out (own_ext HO6.out (by simp) (by simp [slC])) HBS3.out { s with sl:=s.sl.eraseIdx j++[⟨y.i,y.p,y.f,(s.tn:Int)+1⟩],tn:=s.tn+1 } rfl rfl)
   have HRB7:=hid (HRB6.out.other (a:=⟨d,2,none⟩) (fun e=>row_tys HRB6.out HROW6.out (by decide) e) (.slice (some ⟨gg,0,none⟩) ((s.sl.eraseIdx j).length+1) cap))
   have n0:=HRB7.out.cell 0 (by simp)
   have n1:=HRB7.out.cell 1 (by simp)
   have n2:=HRB7.out.cell 2 (by simp)
   have nl:=HRB7.out.lt
   simp only [List.getElem_cons_zero,List.getElem_cons_succ] at n0 n1 n2
   clear h6f hSa hSb hSc hSd hSe hSf
   go_wp2_with fail
   go_ret2
   have hA:=HA.out
   exact ⟨by rw [HT.out];rfl,_,_,_,by rw [HT.out];exact HR3.out.andThen hA⟩
open Go.WideMaps Go.Maps Go.WideShapes Go.WideElems Go.MapKept Go.ChangeMaps
theorem newE_twin8:∀ (ys xs:List EN) (L:List ND) (k:Nat),ys.length=xs.length→(∀ i (h:i<ys.length) (h':i<xs.length),ys[i]={ xs[i] with a:=ys[i].a,c:=ys[i].c })→newE L k ys=newE L k xs
 | [],[],_,_,_,_=>rfl
 | [],x::xs,_,_,h,_=>by simp at h
 | y::ys,[],_,_,h,_=>by simp at h
 | y::ys,x::xs,L,k,h,ht=>by
  have h0:y={ x with a:=y.a,c:=y.c }:=ht 0 (by simp) (by simp)
  have he:addE L y=addE L x:=by rw [h0];rfl
  have hr:∀ L' k',newE L' k' ys=newE L' k' xs:=fun L' k'=>newE_twin8 ys xs L' k' (by simpa using h) (fun i h1 h2=>ht (i+1) (by simpa using h1) (by simpa using h2))
  by_cases hx:(addE L x).1=0
  ·rw [newE_go hx,newE_go (by rw [he];exact hx),he,hr]
  ·rw [newE_no hx,newE_no (by rw [he];exact hx),he]
section
variable {w0 w w' w2:World}{F:Nat}{t:FT}{p g h c m q a b G d ob:Nat}{vL vL' vl vh:Value}{s s':CC}{ws ws':List Nat}{vs vs':List Value}{Ls Ls':List (List Int)}{L:List ND}{dd:Nat→Option Addr × Nat}
theorem own_rowK {base E size n:Nat}{v:Value}{xs:List Value}(ho:w.ownsRow base E size v n xs):∀ x,v.ownBlock=some x→∃ ds,Row w x E ds:=by
 intro x e
 rcases ho.2 with ⟨h1,_⟩|⟨g',cap,cur,rfl,hb,hg,_⟩
 ·rw [h1] at e;cases e
 ·simp only [Value.ownBlock,Option.some.injEq] at e
  subst e
  exact ⟨cur.toList,⟨by simpa using hg⟩⟩
/-- What the reference writes is of its own types, and lies above. -/
theorem RCW.tys {base:Nat}(R:RCW w base q a b G d vL s vs Ls){k:Nat}(hk:R8 a b d vs vL k):base≤k∧∃ T ds,Row w k T ds∧(T=3∧k=a∨T=89∨T=152∨T=5∨T=175):=by
 rcases hk with rfl|rfl|rfl|⟨j,hj,e⟩|e
 ·exact ⟨R.rs.aB,_,_,R.rs.rp.cnts,.inl ⟨rfl,rfl⟩⟩
 ·exact ⟨R.rs.bB,_,_,R.rs.rp.bys,.inr (.inl rfl)⟩
 ·exact ⟨R.lo,_,_,R.row,.inr (.inr (.inl rfl))⟩
 ·have ho:=R.rs.own j hj (by have:=R.rs.ll;omega)
  obtain ⟨ds,hr⟩:=own_blk ho k e
  exact ⟨own_low ho (Nat.le_refl _) k e,_,_,hr,.inr (.inr (.inr (.inl rfl)))⟩
 ·obtain ⟨ds,hr⟩:=own_rowK R.own k e
  exact ⟨own_low R.own (Nat.le_refl _) k e,_,_,hr,.inr (.inr (.inr (.inr rfl)))⟩
theorem RCW.nR {base:Nat}(R:RCW w base q a b G d vL s vs Ls){k:Nat}{E:TypeId}{cs:List Value}(hr:Row w k E cs)(h1:E≠3)(h2:E≠89)(h3:E≠152)(h4:E≠5)(h5:E≠175):¬ R8 a b d vs vL k:=fun hk=>by
 obtain ⟨_,T,ds,hr2,h⟩:=R.tys hk
 rcases h with ⟨rfl,_⟩|rfl|rfl|rfl|rfl
 ·exact row_tys hr hr2 h1 rfl
 ·exact row_tys hr hr2 h2 rfl
 ·exact row_tys hr hr2 h3 rfl
 ·exact row_tys hr hr2 h4 rfl
 ·exact row_tys hr hr2 h5 rfl
end
end Go.Proofs.YtdjpjfdeeelijaaGreatDoor
