/- Merged: Gt5 Gt6 Gt7 Gt8 Gt9 GtA. -/
import Derived.Test.YtdjpjfdeeelijaaGreatDoorKY0
import Derived.Deep.QuietTactic
import Derived.BigQuiet
import Derived.Test.YtdjpjfdeeelijaaGreatDoorKB2
import Derived.Test.YtdjpjfdeeelijaaGreatDoorW04
import Derived.Laws.EntriesVeiled
namespace Go.Proofs.YtdjpjfdeeelijaaGreatDoor
open Go.RowKit Go.Sort
set_option maxRecDepth 100000 in
theorem rightAddr_any (x:Int)(w:World):Calls Tryz.prog 54 #[.int .u64 x] w fun r w'=>r=.returned (.bool (decide (x<140737488355328)))∧w=w':=by
 go_enter Tryz.func54,Tryz.ntmps54
 go_wp2_with fail
 go_ret
 exact ⟨rfl,rfl⟩
set_option maxRecDepth 100000 in
theorem nodeWord_any (f:Nat)(hf:f<1048576)(w:World):Calls Tryz.prog 106 #[.int .i64 (f:Int)] w fun r w'=>r=.returned (.int .u64 ((f*4096+1:Nat):Int))∧w=w':=by
 have e1:IntKind.u64.wrap (f:Int)=(f:Int):=IntWalk.u64_in _ (by omega)
 obtain ⟨q,hq⟩:∃ q,q=f*4096:=⟨_,rfl⟩
 have e2:IntKind.u64.wrap ((f:Int)*4096)=(q:Int):=by rw [IntWalk.u64_in _ (by omega)];omega
 obtain ⟨z,hz⟩:∃ z,z=q+1:=⟨_,rfl⟩
 have e3:bits BinOp.or .u64 (q:Int) 1=(z:Int):=by
  rw [show (1:Int)=((1:Nat):Int) from rfl,bits_or_u64_nat _ _ (by omega) (by omega),hz]
  congr 1
  rw [hq,show f*4096=2 ^ 12*f by omega,← Nat.two_pow_add_eq_or_of_lt (by decide)]
 rw [← hq,← hz]
 clear hq hz hf
 go_enter Tryz.func106,Tryz.ntmps106
 go_wp2_with fail
 go_ret
 exact ⟨rfl,rfl⟩
set_option maxRecDepth 100000 in
theorem frameOf_any (x:Nat)(hx:x<1152921504606846976)(w:World):Calls Tryz.prog 74 #[.int .u64 (x:Int)] w fun r w'=>r=.returned (.int .i64 ((x/4096:Nat):Int))∧w=w':=by
 have e1:IntKind.i64.wrap ((x:Int)/4096)=((x/4096:Nat):Int):=by rw [IntWalk.i64_in _ (by omega)];omega
 go_enter Tryz.func74,Tryz.ntmps74
 go_wp2_with fail
 go_ret
 exact ⟨rfl,rfl⟩
theorem and16 (x:Nat):x &&& 16=16*(x/16%2):=by
 refine Nat.eq_of_testBit_eq fun i=>?_
 rw [Nat.testBit_and,show (16:Nat)=2 ^ 4 from rfl,Nat.testBit_two_pow_mul,Nat.testBit_two_pow]
 by_cases h:i=4
 ·subst h
  simp [Nat.testBit_eq_decide_div_mod_eq]
 ·have h2:decide (4=i)=false:=by simp;omega
  rw [h2,Bool.and_false]
  by_cases h3:4≤i
  ·have:(x/2 ^ 4%2).testBit (i-4)=false:=by
    refine Nat.testBit_lt_two_pow (Nat.lt_of_lt_of_le (Nat.mod_lt _ (by decide)) ?_)
    exact Nat.le_trans (show 2≤2 ^ 1 by decide) (Nat.pow_le_pow_right (by decide) (by omega))
   rw [this,Bool.and_false]
  ·simp [h3]
theorem wd_or:∀ p<8,(1 ||| (2*p:Nat))=1+2*p:=by decide
theorem wd_or16:∀ p<8,((1+2*p:Nat) ||| 16)=17+2*p:=by decide
theorem wdT_lf (f p:Nat)(c:Bool):wdT (.lf f p c)=f*4096+1+2*p+(if c then 16 else 0):=rfl
theorem wdT_lt {f p:Nat}{cp:Bool}(hf:f<1048576)(hp:p≤7):wdT (.lf f p cp)<1152921504606846976:=by rw [wdT_lf];cases cp <;> simp <;> omega
set_option maxRecDepth 100000 in
set_option maxHeartbeats 1000000 in
theorem leafWord_any (f pr:Nat)(cp:Bool)(hf:f<1048576)(hp:pr≤7)(w:World):Calls Tryz.prog 62 #[.agg #[.int .i64 (f:Int),.int .u8 (pr:Int),.bool cp]] w fun r w'=>r=.returned (.int .u64 ((wdT (.lf f pr cp):Nat):Int))∧Below w.heap.size w w':=by
 have e1:IntKind.u64.wrap (pr:Int)=(pr:Int):=IntWalk.u64_in _ (by omega)
 obtain ⟨U,hU⟩:∃ U,U=2*pr:=⟨_,rfl⟩
 have e2:IntKind.u64.wrap ((pr:Int)*2)=(U:Int):=by rw [IntWalk.u64_in _ (by omega)];omega
 obtain ⟨Z,hZ⟩:∃ Z,Z=f*4096+1:=⟨_,rfl⟩
 obtain ⟨Y,hY⟩:∃ Y,Y=f*4096+(1+2*pr):=⟨_,rfl⟩
 obtain ⟨X,hX⟩:∃ X,X=f*4096+(17+2*pr):=⟨_,rfl⟩
 have e3:bits BinOp.or .u64 (Z:Int) (U:Int)=(Y:Int):=by
  rw [bits_or_u64_nat _ _ (by omega) (by omega)]
  congr 1
  rw [hZ,hU,hY,show f*4096=2 ^ 12*f by omega,Nat.two_pow_add_eq_or_of_lt (by decide),Nat.or_assoc,wd_or pr (by omega),← Nat.two_pow_add_eq_or_of_lt (by omega)]
 have e4:bits BinOp.or .u64 (Y:Int) 16=(X:Int):=by
  rw [show (16:Int)=((16:Nat):Int) from rfl,bits_or_u64_nat _ _ (by omega) (by omega)]
  congr 1
  rw [hY,hX,show f*4096=2 ^ 12*f by omega,Nat.two_pow_add_eq_or_of_lt (by omega),Nat.or_assoc,wd_or16 pr (by omega),← Nat.two_pow_add_eq_or_of_lt (by omega)]
 have HN:=hid (fun w=>nodeWord_any f hf w)
 rw [← hZ] at HN
 have HV:=hid (show wdT (.lf f pr cp)=if cp then X else Y by rw [wdT_lf];cases cp <;> simp <;> omega)
 clear hX hY hZ hU
 obtain ⟨w1,hw1⟩:∃ w1,w1=w.alloc (.cells #[.int .i64 (f:Int),.int .u8 (pr:Int),.bool cp] 31):=⟨_,rfl⟩
 have HB1:=hid (show Below w.heap.size w w1 by rw [hw1];exact bal _)
 have HR1:=hid (show Row w1 w.heap.size 31 [.int .i64 (f:Int),.int .u8 (pr:Int),.bool cp] by rw [hw1];exact Row.new w _ _)
 have HW1:=hid hw1
 clear hw1 hf hp
 go_enter Tryz.func62,Tryz.ntmps62
 go_wp2_with fail
 rw [← HW1.out]
 obtain ⟨g0,g1,g2⟩:w1.cell? ⟨w.heap.size,0,none⟩=some (.int .i64 (f:Int))∧w1.cell? ⟨w.heap.size,1,none⟩=some (.int .u8 (pr:Int))∧w1.cell? ⟨w.heap.size,2,none⟩=some (.bool cp):=⟨HR1.out.cell 0 (by simp),HR1.out.cell 1 (by simp),HR1.out.cell 2 (by simp)⟩
 have hrl:=HR1.out.lt
 go_quiet ((go_at_call 106;exact Calls.quiet_of_same ((HN.out _).mono (fun _ _ h=>⟨h.1,h.2.symm⟩))))
 cases cp
 ·go_wp2_with fail
  go_ret
  exact ⟨by rw [HV.out];rfl,bdN HB1.out _⟩
 ·go_wp2_with fail
  go_ret
  exact ⟨by rw [HV.out];rfl,bdN HB1.out _⟩
set_option maxRecDepth 100000 in
set_option maxHeartbeats 1000000 in
theorem leafOf_any (f pr:Nat)(cp:Bool)(hf:f<1048576)(hp:pr≤7)(w:World):Calls Tryz.prog 65 #[.int .u64 ((wdT (.lf f pr cp):Nat):Int)] w fun r w'=>r=.returned (.agg #[.int .i64 (f:Int),.int .u8 (pr:Int),.bool cp])∧Below w.heap.size w w':=by
 have hx:=wdT_lt (cp:=cp) hf hp
 have HF:=hid (fun w=>frameOf_any _ hx w)
 have h1:wdT (.lf f pr cp)/4096=f:=by rw [wdT_lf];cases cp <;> simp <;> omega
 rw [h1] at HF
 have h2:wdT (.lf f pr cp)/2%8=pr:=by rw [wdT_lf];cases cp <;> simp <;> omega
 have h3:wdT (.lf f pr cp)/16%2=if cp then 1 else 0:=by rw [wdT_lf];cases cp <;> simp <;> omega
 generalize wdT (.lf f pr cp)=x at *
 have e1:bits BinOp.and .u64 ((x:Int)/2) 7=(pr:Int):=by
  rw [show (x:Int)/2=((x/2:Nat):Int) by omega,show (7:Int)=((7:Nat):Int) from rfl,bits_and_u64_nat _ _ (by omega) (by omega)]
  congr 1
  rw [show (7:Nat)=2 ^ 3-1 from rfl,Nat.and_two_pow_sub_one_eq_mod]
  exact h2
 have e2:IntKind.u8.wrap (pr:Int)=(pr:Int):=by rw [IntKind.wrap_u8];omega
 have e3:bits BinOp.and .u64 (x:Int) 16=if cp then 16 else 0:=by
  rw [show (16:Int)=((16:Nat):Int) from rfl,bits_and_u64_nat _ _ (by omega) (by omega),and16,h3]
  cases cp <;> rfl
 clear h1 h2 h3 hx hf hp
 cases cp
 ·simp only [Bool.false_eq_true,if_false] at e3
  go_enter Tryz.func65,Tryz.ntmps65
  go_wp2_with fail
  refine (HF.out _).mono ?_
  rintro e w' ⟨rfl,rfl⟩
  go_wp2_with fail
  refine bodyPost_ret (v:=.agg #[.int .i64 (f:Int),.int .u8 (pr:Int),.bool false]) (by simp [results,Tryz.f65,go_sem]) rfl ⟨rfl,?_⟩
  repeat (first|with_reducible refine bset ?_ .. _|exact bal _)
 ·simp only [if_true] at e3
  go_enter Tryz.func65,Tryz.ntmps65
  go_wp2_with fail
  refine (HF.out _).mono ?_
  rintro e w' ⟨rfl,rfl⟩
  go_wp2_with fail
  refine bodyPost_ret (v:=.agg #[.int .i64 (f:Int),.int .u8 (pr:Int),.bool true]) (by simp [results,Tryz.f65,go_sem]) rfl ⟨rfl,?_⟩
  repeat (first|with_reducible refine bset ?_ .. _|exact bal _)
/-- The number of an address's word, in a node of level k + 1. -/
def ixOf (a k:Nat):Nat:=a/2 ^ (12+9*k)%512
theorem ixOf_lt (a k:Nat):ixOf a k<512:=Nat.mod_lt _ (by omega)
set_option maxRecDepth 100000 in
set_option maxHeartbeats 2000000 in
theorem split_any (a:Nat)(ha:a<18446744073709551616)(w:World):Calls Tryz.prog 59 #[.int .u64 (a:Int)] w fun r w'=>r=.returned (.agg #[.int .i64 (ixOf a 0:Int),.int .i64 (ixOf a 1:Int),.int .i64 (ixOf a 2:Int),.int .i64 (ixOf a 3:Int)])∧Below w.heap.size w w':=by
 have e0:IntKind.i64.wrap ((a:Int)/4096)=((a/4096:Nat):Int):=by rw [IntWalk.i64_in _ (by omega)];omega
 have e1:IntKind.i64.wrap ((a:Int)/2097152)=((a/2097152:Nat):Int):=by rw [IntWalk.i64_in _ (by omega)];omega
 have e2:IntKind.i64.wrap ((a:Int)/1073741824)=((a/1073741824:Nat):Int):=by rw [IntWalk.i64_in _ (by omega)];omega
 have e3:IntKind.i64.wrap ((a:Int)/549755813888)=((a/549755813888:Nat):Int):=by rw [IntWalk.i64_in _ (by omega)];omega
 have f0:(((a/4096:Nat):Int)).tmod 512=(ixOf a 0:Int):=by rw [Int.tmod_eq_emod_of_nonneg (by omega)];unfold ixOf;omega
 have f1:(((a/2097152:Nat):Int)).tmod 512=(ixOf a 1:Int):=by rw [Int.tmod_eq_emod_of_nonneg (by omega)];unfold ixOf;omega
 have f2:(((a/1073741824:Nat):Int)).tmod 512=(ixOf a 2:Int):=by rw [Int.tmod_eq_emod_of_nonneg (by omega)];unfold ixOf;omega
 have f3:(((a/549755813888:Nat):Int)).tmod 512=(ixOf a 3:Int):=by rw [Int.tmod_eq_emod_of_nonneg (by omega)];unfold ixOf;omega
 generalize a/4096=a0 at *
 generalize a/2097152=a1 at *
 generalize a/1073741824=a2 at *
 generalize a/549755813888=a3 at *
 generalize ixOf a 0=x0 at *
 generalize ixOf a 1=x1 at *
 generalize ixOf a 2=x2 at *
 generalize ixOf a 3=x3 at *
 go_enter Tryz.func59,Tryz.ntmps59
 go_wp2_with fail
 refine wp_loop_rounds 5 ?_
 rw [rounds_succ]
 go_wp2_with fail
 rw [rounds_succ]
 go_wp2_with fail
 rw [rounds_succ]
 go_wp2_with fail
 rw [rounds_succ]
 go_wp2_with fail
 rw [rounds_succ]
 go_wp2_with fail
 refine bodyPost_ret (v:=.agg #[.int .i64 (x0:Int),.int .i64 (x1:Int),.int .i64 (x2:Int),.int .i64 (x3:Int)]) (by simp [results,Tryz.f59,go_sem]) rfl ⟨rfl,?_⟩
 repeat (first|with_reducible refine bset ?_ .. _|with_reducible refine bal2 ?_ _|with_reducible exact Below.refl _ _|exact bal _)
open Go.WideMaps Go.Maps Go.WideShapes Go.WideElems Go.MapKept Go.ChangeMaps
attribute [local go_sem] Oper.semAt_some
/-- A table in memory: its struct in tb, over a cache. -/
structure TW (w0:World)(F:Nat)(t:FT)(p g h c m tb:Nat)(s:CC)(ws:List Nat)(root:Nat)(fr:Bool)(w:World):Prop where
 cw:CW w0 F t p g h c m s ws w
 tab:Row w tb 106 [.pointer (some ⟨c,0,none⟩),.int .i64 (root:Int),.bool fr]
 sz:Wd.Sizes w0
 lt:w0.heap.size≤tb
section
variable {w0 w w':World}{F:Nat}{t:FT}{p g h c m tb:Nat}{s s':CC}{ws ws':List Nat}{root:Nat}{fr:Bool}
theorem TW.below (H:TW w0 F t p g h c m tb s ws root fr w)(hb:Below w.heap.size w w'):TW w0 F t p g h c m tb s ws root fr w':=⟨H.cw.below hb,H.tab.below hb H.tab.lt,H.sz,H.lt⟩
theorem TW.nS (H:TW w0 F t p g h c m tb s ws root fr w):¬ cS g h c m tb:=by
 rintro (e|e|e|e)
 ·exact row_tys H.tab H.cw.cache (by decide) e
 ·exact H.cw.map.row H.tab e.symm
 ·exact row_tys H.tab H.cw.pool.frames (by decide) e
 ·exact row_tys H.tab H.cw.pool.words (by decide) e
theorem TW.call (H:TW w0 F t p g h c m tb s ws root fr w)(hc:CW w0 F t p g h c m s' ws' w')(he:EX (cS g h c m) w w'):TW w0 F t p g h c m tb s' ws' root fr w':=⟨hc,he.row H.tab H.nS,H.sz,H.lt⟩
theorem TW.cells (H:TW w0 F t p g h c m tb s ws root fr w):w.cell? ⟨tb,0,none⟩=some (.pointer (some ⟨c,0,none⟩))∧w.cell? ⟨tb,1,none⟩=some (.int .i64 (root:Int))∧w.cell? ⟨tb,2,none⟩=some (.bool fr):=⟨H.tab.cell 0 (by simp),H.tab.cell 1 (by simp),H.tab.cell 2 (by simp)⟩
theorem TW.sizes (H:TW w0 F t p g h c m tb s ws root fr w):Wd.Sizes w:=H.sz.below H.cw.low
theorem CW.pool1 (H:CW w0 F t p g h c m s ws w){fs':List FR}{ws':List Nat}(hp:Pl w' p g h fs' ws')(he:Ex w w' g h):CW w0 F t p g h c m { s with fs:=fs' } ws' w'∧EX (cS g h c m) w w':=⟨H.pool' hp he,ex_cS he⟩
end
set_option maxRecDepth 100000 in
set_option maxHeartbeats 4000000 in
theorem cPool_any (c:Nat)(a b d e:Value)(w:World)(h:Row w c 135 [a,b,d,e]):Calls Tryz.prog 104 #[.pointer (some ⟨c,0,none⟩)] w fun r w'=>r=.returned a∧w=w':=by
 obtain ⟨c0,c1,c2,c3⟩:=h.four
 have hlc:=h.lt
 clear h
 go_enter Tryz.func104,Tryz.ntmps104
 go_wp2_with fail
 go_ret
 exact ⟨rfl,rfl⟩
section
variable (w0:World)(F:Nat)(t:FT)(p g h c m tb:Nat)(s:CC)(ws:List Nat)(root:Nat)(fr:Bool)(w:World)
set_option maxRecDepth 100000 in
set_option maxHeartbeats 4000000 in
theorem tpool_any (H:TW w0 F t p g h c m tb s ws root fr w):Calls Tryz.prog 56 #[.pointer (some ⟨tb,0,none⟩)] w fun r w'=>r=.returned (.pointer (some ⟨p,0,none⟩))∧w=w':=by
 obtain ⟨c0,c1,c2⟩:=H.cells
 have hlc:=H.tab.lt
 have HP:=hid (cPool_any c _ _ _ _ w H.cw.cache)
 clear H
 go_enter Tryz.func56,Tryz.ntmps56
 go_wp2_with fail
 refine (HP.out).mono ?_
 rintro e w1 ⟨rfl,rfl⟩
 go_wp2_with fail
 go_ret
 exact ⟨rfl,rfl⟩
set_option maxRecDepth 100000 in
set_option maxHeartbeats 4000000 in
theorem tgone_any (H:TW w0 F t p g h c m tb s ws root fr w):Calls Tryz.prog 53 #[.pointer (some ⟨tb,0,none⟩)] w fun r w'=>r=.returned (.bool fr)∧w=w':=by
 obtain ⟨c0,c1,c2⟩:=H.cells
 have hlc:=H.tab.lt
 clear H
 go_enter Tryz.func53,Tryz.ntmps53
 go_wp2_with fail
 go_ret
 exact ⟨rfl,rfl⟩
end
theorem b2i_map (l:List UInt8):(b2i l).map (Value.int .u8)=l.map B8:=by unfold b2i;rw [List.map_map];rfl
theorem le8_at (x j:Nat)(h:j<(le8 x).length):Value.int .u8 ((le8 x)[j])=B8 ((Wd.leB x 8)[j]'(by rw [le8_len] at h;rw [Wd.leB_len];exact h)):=by simp [le8,b2i,B8]
theorem wget8 (x:Nat)(hx:x<18446744073709551616):Wd.wgetV (Wd.leB x 8) 0 8=(x:Int):=by
 unfold Wd.wgetV
 rw [Wd.leB_len,if_pos (by decide)]
 rw [show (0:Int).toNat=0 from rfl,show (8:Int).toNat=8 from rfl,List.drop_zero,List.take_of_length_le (by rw [Wd.leB_len];exact Nat.le_refl _),Wd.le_leB]
 omega
theorem chk8:Wd.chk 8 0 8=0:=by decide
theorem infoU8t:(Tryz.prog.info? 5).map (fun i=>(i.zero,i.size,i.bytes))=some (some (.int .u8 0),1,1):=by kernel_rfl
section
variable (w0:World)(F:Nat)(t:FT)(p g h c m tb:Nat)(s:CC)(ws:List Nat)(root:Nat)(fr:Bool)(w:World)
set_option maxRecDepth 100000 in
set_option maxHeartbeats 4000000 in
theorem word_any (H:TW w0 F t p g h c m tb s ws root fr w)(f i x:Nat)(hw:WdAt s.fs f i x)(h0:∀ hf:f<s.fs.length,s.fs[f].cnt≠0)(hi:i<512)(hx:x<18446744073709551616):
 Calls Tryz.prog 105 #[.pointer (some ⟨tb,0,none⟩),.int .i64 (f:Int),.int .i64 (i:Int)] w fun e w'=>e=.returned (.int .u64 (x:Int))∧Below w.heap.size w w':=by
 obtain ⟨hf,hbs⟩:=hw
 have HPO:=hid (tpool_any w0 F t p g h c m tb s ws root fr w H)
 have hT:takE s.fs (f:Int)=0:=by unfold takE;rw [cntF_at hf,if_neg (h0 hf)]
 have hW:withinB ((i:Int)*8) 8=true:=by unfold withinB;simp;omega
 have hE:loadE s.fs (f:Int) ((i:Int)*8) 8=0:=by unfold loadE;rw [hT,hW];rfl
 have hL:loadL s.fs (f:Int) ((i:Int)*8) 8=le8 x:=by
  unfold loadL
  rw [hT,hW,Int.toNat_natCast,show ((i:Int)*8).toNat=8*i by omega,show (8:Int).toNat=8 from rfl,getF_at _ _ _ hf]
  exact hbs
 have HLD:=hid (load_any p g h s.fs ws (f:Int) ((i:Int)*8) 8 w H.cw.pool)
 rw [hE,hL,le8_len] at HLD
 unfold le8 at HLD
 rw [b2i_map] at HLD
 have HSZ:=hid H.sizes
 have HWG:=hid (wget8 x hx)
 have ew:=IntWalk.wrap64_in ((i:Int)*8) ⟨by omega,by omega⟩
 clear H hbs h0 hT hW hE hL hf hx
 go_enter Tryz.func105,Tryz.ntmps105
 go_wp2_with fail
 refine (HPO.out).mono ?_
 rintro e w1 ⟨rfl,rfl⟩
 go_wp2_with fail
 refine (HLD.out).mono ?_
 rintro e w1 ⟨v,rfl,ho,hb⟩
 have ho2:w1.ownsRow w.heap.size 5 1 v (Wd.leB x 8).length ((Wd.leB x 8).map B8):=by rw [Wd.leB_len];exact ho
 obtain ⟨a,ca,rfl,hB⟩:=own_byt ho2
 rw [Wd.leB_len] at hB
 have HG:=hid (Wd.get_any a 8 ca 0 8 (Wd.leB x 8) w1 (HSZ.out.below hb) (by omega) hB (by omega))
 rw [HWG.out,show ((8:Nat):Int)=8 from rfl,chk8] at HG
 have HB:=hid hb
 clear ho ho2 hB hb
 rw [Wd.leB_len]
 go_wp2_with fail
 refine (HG.out).mono ?_
 rintro e w2 ⟨rfl,rfl⟩
 go_wp2_with fail
 go_ret
 exact ⟨rfl,HB.out⟩
set_option maxRecDepth 100000 in
set_option maxHeartbeats 4000000 in
theorem lay_any (H:TW w0 F t p g h c m tb s ws root fr w)(f i x:Nat)(hf:f<s.fs.length)(h0:s.fs[f].cnt≠0)(hi:i<512):
 Calls Tryz.prog 61 #[.pointer (some ⟨tb,0,none⟩),.int .i64 (f:Int),.int .i64 (i:Int),.int .u64 (x:Int)] w fun e w'=>e=.returned (.tuple #[])∧TW w0 F t p g h c m tb (layC s f i x) ws root fr w'∧EX (cS g h c m) w w':=by
 have HH:=hid H
 have HSZ:=hid H.sizes
 have ew:=IntWalk.wrap64_in ((i:Int)*8) ⟨by omega,by omega⟩
 have HE:=hid (layE x hf h0 hi)
 clear H h0
 go_enter Tryz.func61,Tryz.ntmps61
 go_wp2_with (at_make;refine wpList_make_row _ rfl _ _ 89 rfl 5 (.int .u8 0) 1 Tryz.underlying89 infoU8t rfl .i64 .i64 8 8 8 rfl rfl (by omega) (by omega) (by omega) (by omega) ?_;intro w1 hr1 hb1 hs1;have HR1:=hid hr1;have HB1:=hid hb1;clear hr1 hb1 hs1)
 have hB0:Byt w1 (some ⟨w.heap.size,0,none⟩) 8 (List.replicate 8 0):=Row.byt (rest:=[]) (by rw [List.append_nil];exact HR1.out) (by simp)
 have HST:=hid (Wd.set_new w.heap.size 8 x w1 (HSZ.out.below HB1.out) (by omega) hB0)
 clear hB0
 go_wp2_with fail
 refine (HST.out).mono ?_
 rintro e w2 ⟨rfl,hr2,hb2⟩
 have HB2:=hid (bthen HB1.out hb2)
 have H2:=hid (HH.out.below HB2.out)
 have HPO:=hid (tpool_any w0 F t p g h c m tb s ws root fr w2 H2.out)
 have hN:Nums w2 .u8 (some ⟨w1.heap.size,0,none⟩) 8 (le8 x):=by
  refine ⟨le8_len x,fun j hj=>⟨w1.heap.size,0,rfl,?_⟩⟩
  have h8:=le8_len x
  have:=hr2.cell j (by rw [List.length_map,Wd.leB_len];omega)
  rw [Nat.zero_add,this,List.getElem_map]
  rw [le8_at x j hj]
 have HS:=hid (store_any p g h s.fs ws (f:Int) ((i:Int)*8) (some ⟨w1.heap.size,0,none⟩) 8 8 (le8 x) w2 H2.out.cw.pool hN (by omega))
 have h9:loadE s.fs (f:Int) ((i:Int)*8) ((8:Nat):Int)=0:=by
  have:=HE.out
  rw [le8_len,show ((8*i:Nat):Int)=(i:Int)*8 by omega] at this
  exact this
 rw [h9] at HS
 clear hr2 hb2 hN h9
 go_wp2_with fail
 refine (HPO.out).mono ?_
 rintro e w3 ⟨rfl,rfl⟩
 go_wp2_with fail
 refine (HS.out).mono ?_
 rintro e w3 ⟨rfl,hp3,he3⟩
 have h3:=H2.out.cw.pool1 hp3 he3
 have hlay:layC s f i x={ s with fs:=storeS s.fs (f:Int) ((i:Int)*8) (le8 x) }:=by unfold layC layS;rw [show ((8*i:Nat):Int)=(i:Int)*8 by omega]
 rw [← hlay] at h3
 have H3:=hid h3
 clear hp3 he3 h3 hlay
 go_wp2_with fail
 exact bodyPost_end (results_none rfl _ _ _) rfl ⟨rfl,H2.out.call H3.out.1 H3.out.2,(EX.of_below HB2.out).trans H3.out.2⟩
theorem bare_bs {fs:List FR}{f:Nat}{kids:Nat→Tr}(hf:f<fs.length)(hl:fs[f].bs.length=4096)(hw:∀ i,i<512→WdAt fs f i (wdT (kids i))):
 (bareK kids=true→∀ k,(hk:k<fs[f].bs.length)→fs[f].bs[k]=0)∧(bareK kids=false→∃ k,∃ hk:k<fs[f].bs.length,fs[f].bs[k]≠0):=by
 have hg:∀ i q,(hi:i<512)→(hq:q<8)→fs[f].bs[8*i+q]?=(le8 (wdT (kids i)))[q]?:=fun i q hi hq=>by
  obtain ⟨_,e⟩:=hw i hi
  rw [← e,List.getElem?_take,if_pos hq,List.getElem?_drop]
 constructor
 ·intro hb k hk
  have h1:=hg (k/8) (k%8) (by omega) (Nat.mod_lt _ (by omega))
  rw [show 8*(k/8)+k%8=k by omega,List.getElem?_eq_getElem hk,bareK_iff.1 hb _ (by omega)] at h1
  have h2:∀ q,q<8→(le8 (wdT .no))[q]?=some 0:=by decide
  rw [h2 _ (Nat.mod_lt _ (by omega))] at h1
  exact Option.some.inj h1
 ·intro hb
  obtain ⟨i,hi,hn⟩:=bareK_has hb
  have h1:=hg i 0 hi (by omega)
  refine ⟨8*i,by omega,fun e=>?_⟩
  rw [Nat.add_zero,List.getElem?_eq_getElem (by omega),e] at h1
  have h2:(le8 (wdT (kids i)))[0]?=some ((wdT (kids i)%256:Nat):Int):=by
   unfold le8 b2i Wd.leB
   rw [List.getElem?_map,List.getElem?_map,List.getElem?_range (by omega)]
   simp [Wd.byteAt]
  rw [h2] at h1
  have h3:=Option.some.inj h1
  have h4:wdT (kids i)%2=1:=by
   cases hk:kids i with
   | no=>exact absurd hk hn
   | lf a b c=>rw [wdT_lf];split <;> omega
   | nd a b=>show (a*4096+1)%2=1;omega
  omega
set_option maxRecDepth 100000 in
set_option maxHeartbeats 4000000 in
theorem bare_any (H:TW w0 F t p g h c m tb s ws root fr w)(f:Nat)(kids:Nat→Tr)(hf:f<s.fs.length)(h0:s.fs[f].cnt≠0)(hw:∀ i,i<512→WdAt s.fs f i (wdT (kids i))):
 Calls Tryz.prog 107 #[.pointer (some ⟨tb,0,none⟩),.int .i64 (f:Int)] w fun e w'=>e=.returned (.bool (bareK kids))∧Below w.heap.size w w':=by
 have hlen:=H.cw.pool.ok _ (List.getElem_mem hf)
 obtain ⟨hb1,hb2⟩:=bare_bs hf hlen hw
 have HPO:=hid (tpool_any w0 F t p g h c m tb s ws root fr w H)
 have hT:takE s.fs (f:Int)=0:=by unfold takE;rw [cntF_at hf,if_neg h0]
 have hE:loadE s.fs (f:Int) 0 4096=0:=by unfold loadE;rw [hT];rfl
 have hL:loadL s.fs (f:Int) 0 4096=s.fs[f].bs:=by
  unfold loadL
  rw [hT,Int.toNat_natCast,show (0:Int).toNat=0 from rfl,show (4096:Int).toNat=4096 from rfl,getF_at _ _ _ hf,List.drop_zero,List.take_of_length_le (by omega)]
  rfl
 have HLD:=hid (load_any p g h s.fs ws (f:Int) 0 4096 w H.cw.pool)
 rw [hE,hL,hlen] at HLD
 have HB1:=hid hb1
 have HB2:=hid hb2
 generalize s.fs[f].bs=L at *
 have HLEN:=hid hlen
 clear H hw h0 hT hE hL hb1 hb2 hlen hf
 go_enter Tryz.func107,Tryz.ntmps107
 go_wp2_with fail
 refine (HPO.out).mono ?_
 rintro e w1 ⟨rfl,rfl⟩
 go_wp2_with fail
 refine (HLD.out).mono ?_
 rintro e w1 ⟨v,rfl,ho,hb⟩
 obtain ⟨a,ca,rfl,hcl,_,_,_⟩:=own_cel ho
 obtain ⟨b,o,rfl,hcc⟩:=hcl.some_of (by rw [List.length_map,HLEN.out];omega)
 have HCC:=hid hcc
 have HB:=hid hb
 clear ho hb hcl hcc
 go_wp2_with fail
 go_loopw [18] (fun i wr=>w1=wr∧∃ k:Nat,k≤4096∧i=.int .i64 k∧∀ j (hj:j<L.length),j<k→L[j]=0) (fun i _=>4096-(intOf i).toNat)
 case atStart=>exact ⟨rfl,0,Nat.zero_le _,rfl,fun j _ h=>by omega⟩
 case round=>
  obtain ⟨rfl,k,hk,rfl,hz⟩:=hrel
  have HZ:=hid hz
  clear hz
  have hl:=HLEN.out
  by_cases hlt:k<4096
  ·have d1:decide ((k:Int)<4096)=true:=by simp;omega
   have d1n:decide (k<4096)=true:=by simp;omega
   have hkl:k<L.length:=by omega
   have x0:=HCC.out k (by simpa using hkl)
   rw [List.getElem_map] at x0
   have hk0:(0:Int)≤(k:Int):=by omega
   have hk1:(k:Int)<4096:=by omega
   obtain ⟨y,hy⟩:∃ y,y=L[k]:=⟨_,rfl⟩
   rw [← hy] at x0
   have HY:=hid hy
   clear hy
   by_cases h0:y=0
   ·subst h0
    go_wp2_with fail
    go_roundw
    case rel=>exact ⟨trivial,k+1,by omega,by go_num,fun j hj hjk=>by
     by_cases e:j=k
     ·subst e;exact HY.out.symm
     ·exact HZ.out j hj (by omega)⟩
    case measure=>simp [intOf];omega
   ·have e1:(y != 0)=true:=by rw [bne_iff_ne];exact h0
    have hbk:bareK kids=false:=by
     cases hb:bareK kids
     ·rfl
     ·exact absurd (HY.out.trans (HB1.out hb k hkl)) h0
    clear h0
    go_wp2_with fail
    go_ret
    exact ⟨by rw [hbk];rfl,HB.out⟩
  ·have d1:decide ((k:Int)<4096)=false:=by simp;omega
   have d1n:decide (k<4096)=false:=by simp;omega
   have hbk:bareK kids=true:=by
    cases hb:bareK kids
    ·obtain ⟨j,hj,hn⟩:=HB2.out hb
     exact absurd (HZ.out j hj (by omega)) hn
    ·rfl
   go_wp2_with fail
   go_ret
   exact ⟨by rw [hbk];rfl,HB.out⟩
end
/-- A function that is there is entered. -/
def Enters (fn:Nat):Prop:=∀ (args:Array Value) (w:World),(callFunc fn args).run Tryz.prog w=.ok (.enter fn args) w
def visC (ix:Nat→Nat)(gr pr:Bool)(fv:Value):List Value:=[.int .i64 (ix 0:Int),.int .i64 (ix 1:Int),.int .i64 (ix 2:Int),.int .i64 (ix 3:Int),.bool gr,.bool pr,fv]
structure LPre (rd:Int→Int→List UInt8 × Int)(A:List Nat)(s:CC)(f i:Nat)(ch:Tr)(R:List Nat):Prop where
 hi:i<512
 good:Good rd s (f::(lfT 0 ch++(A++R)))
 off:∀ x∈s.sl,x.f≠(f:Int)
 holds:Holds s.fs 0 ch
 wd:WdAt s.fs f i (wdT ch)
 few:(f::(lfT 0 ch++(A++R))).length≤3000000
/-- What the closure of a visit does at the leaf's word. -/
def LeafGo (w0:World)(F:Nat)(t:FT)(p g h c m tb root:Nat)(fr:Bool)(v:Vis)(rd:Int→Int→List UInt8 × Int)(A:List Nat)(Pr:CC→Prop)(P0:World→Prop)(P1:Tr→World→Prop)(S:Nat→Prop)(fn:Nat)(caps:Array Value):Prop:=
 ∀ (s:CC) (f i:Nat) (ch:Tr) (R ws:List Nat) (wr:World),TW w0 F t p g h c m tb s ws root fr wr→P0 wr→LPre rd A s f i ch R→Pr s→
  Calls Tryz.prog fn (#[.int .i64 (f:Int),.int .i64 (i:Int)]++caps) wr fun e w'=>e=.returned (.int .i64 (v.leaf s f i ch).2.2)∧(∃ ws',TW w0 F t p g h c m tb (v.leaf s f i ch).1 ws' root fr w')∧EX S wr w'∧P1 ch w'
theorem nodup_len:∀ (n:Nat) (l:List Nat),l.Nodup→(∀ a∈l,a<n)→l.length≤n
 | 0,l,_,h=>by
  cases l with
  | nil=>exact Nat.le_refl _
  | cons a l=>exact absurd (h a (List.mem_cons_self ..)) (Nat.not_lt_zero _)
 | n+1,l,hn,h=>by
  by_cases hm:n∈l
  ·have:=nodup_len n (l.erase n) (hn.erase n) fun a ha=>by
    have h1:=h a (List.mem_of_mem_erase ha)
    have h2:a≠n:=fun e=>by
     subst e
     have h3:=mem_cnt ha
     have h4:=cnt_nodup hn a
     rw [List.count_erase_self] at h3
     omega
    omega
   rw [List.length_erase_of_mem hm] at this
   omega
  ·have:=nodup_len n l hn fun a ha=>by
    have h1:=h a ha
    have h2:a≠n:=fun e=>hm (e▸ha)
    omega
   omega
theorem flat_le {α:Type}(h1:Nat→List α)(n:Nat)(h2:Nat→Nat):∀ (l:List Nat),(∀ i∈l,(h1 i).length≤n*h2 i)→(l.flatMap h1).length≤n*(l.map h2).sum
 | [],_=>by simp
 | i::l,h=>by
  have e1:=h i (List.mem_cons_self ..)
  have e2:=flat_le h1 n h2 l fun j hj=>h j (List.mem_cons_of_mem _ hj)
  simp only [List.flatMap_cons,List.length_append,List.map_cons,List.sum_cons,Nat.mul_add]
  omega
theorem sum_one:∀ l:List Nat,(l.map fun _=>1).sum=l.length
 | []=>rfl
 | _::l=>by rw [List.map_cons,List.sum_cons,sum_one l,List.length_cons];omega
theorem lfT_le:∀ (k:Nat) (f:Nat) (kids:Nat→Tr),(lfT (k+1) (.nd f kids)).length≤512*(nodesT (k+1) (.nd f kids)).length
 | 0,f,kids=>by
  have h1:(lfT 1 (.nd f kids)).length≤1*((List.range 512).map fun _=>1).sum:=flat_le (fun i=>lfT 0 (kids i)) 1 (fun _=>1) (List.range 512) fun i _=>by
   show (lfT 0 (kids i)).length≤1*1
   cases kids i <;> simp [lfT]
  have h2:=sum_one (List.range 512)
  rw [List.length_range] at h2
  show (lfT 1 (.nd f kids)).length≤512*(nodesT 1 (.nd f kids)).length
  rw [nodes_one,List.length_singleton]
  omega
 | k+1,f,kids=>by
  have h1:(lfT (k+2) (.nd f kids)).length≤512*((List.range 512).map fun i=>(nodesT (k+1) (kids i)).length).sum:=flat_le (fun i=>lfT (k+1) (kids i)) 512 (fun i=>(nodesT (k+1) (kids i)).length) (List.range 512) fun i _=>by
   show (lfT (k+1) (kids i)).length≤512*(nodesT (k+1) (kids i)).length
   cases hk:kids i with
   | nd g kk=>exact lfT_le k g kk
   | no=>simp [lfT,nodesT]
   | lf a b c=>simp [lfT,nodesT]
  have h2:(nodesT (k+2) (.nd f kids)).length=1+((List.range 512).map fun i=>(nodesT (k+1) (kids i)).length).sum:=by
   show (f::(List.range 512).flatMap fun i=>nodesT (k+1) (kids i)).length=_
   rw [List.length_cons,List.length_flatMap]
   omega
  show (lfT (k+2) (.nd f kids)).length≤512*(nodesT (k+2) (.nd f kids)).length
  omega
theorem TI.len {rd:Int→Int→List UInt8 × Int}{s:CC}{k f:Nat}{kids:Nat→Tr}{R:List Nat}(H:TI rd s k f kids R):(hxT k f kids).length≤513*s.fs.length:=by
 have h1:=nodup_len s.fs.length _ H.nd fun a ha=>H.good.hold a (List.mem_append_left _ (List.mem_append_left _ ha))
 have h2:=lfT_le k f kids
 unfold hxT
 rw [List.length_append]
 omega
theorem TI.root {rd:Int→Int→List UInt8 × Int}{s:CC}{k f:Nat}{kids:Nat→Tr}{R:List Nat}(H:TI rd s k f kids R):∃ hf:f<s.fs.length,s.fs[f].cnt≠0:=
 H.good.at_ (List.mem_append_left _ (List.mem_append_left _ (List.mem_cons_self ..)))
theorem wdT_lt2 {fs:List FR}{k:Nat}{ch:Tr}(h:Holds fs k ch)(hl:fs.length≤1024)(hn:∀ g kk,ch=.nd g kk→g<fs.length):wdT ch<1152921504606846976:=by
 cases ch with
 | no=>decide
 | lf a b c=>
  cases k with
  | zero=>
   obtain ⟨h1,h2⟩:=h
   exact wdT_lt (by omega) h2
  | succ k=>exact h.elim
 | nd g kk=>
  have:=hn g kk rfl
  show g*4096+1<_
  omega
section
variable {w0:World}{F:Nat}{t:FT}{p g h c m tb root:Nat}{fr:Bool}{v:Vis}{rd:Int→Int→List UInt8 × Int}{A:List Nat}{B:Int→List Nat}{Pr:CC→Prop}{P0:World→Prop}{P1:Tr→World→Prop}{S:Nat→Prop}{fn:Nat}{caps:Array Value}{ix:Nat→Nat}
/-- What down leaves. -/
def DownP (w0:World)(F:Nat)(t:FT)(p g h c m tb root:Nat)(fr:Bool)(P1:Tr→World→Prop)(S:Nat→Prop)(r:CC × (Nat→Tr) × Int)(ch:Tr)(w:World)(e:Ending)(w':World):Prop:=
 e=.returned (.int .i64 r.2.2)∧(∃ ws',TW w0 F t p g h c m tb r.1 ws' root fr w')∧EX S w w'∧P1 ch w'
set_option maxRecDepth 100000 in
set_option maxHeartbeats 4000000 in
theorem down_zero (hen:Enters fn)(_hS:∀ b,cS g h c m b→S b)(hP0:∀ w w',EX (cS g h c m) w w'→P0 w→P0 w')(LG:LeafGo w0 F t p g h c m tb root fr v rd A Pr P0 P1 S fn caps)(hix:∀ j,ix j<512)
 (s:CC) (f:Nat) (kids:Nat→Tr) (R ws:List Nat) (w:World) (H:TW w0 F t p g h c m tb s ws root fr w) (h0:P0 w) (T:TI rd s 0 f kids (A++R)) (hp:Pr s) (hN:(hxT 0 f kids++(A++R)).length≤3000000):
 Calls Tryz.prog 58 #[.pointer (some ⟨tb,0,none⟩),.int .i64 (f:Int),.int .i64 1,.agg (visC ix v.grow v.prune (.func (.func fn) #[] caps)).toArray] w (DownP w0 F t p g h c m tb root fr P1 S (downT v ix 0 s f kids) (lookT ix 0 kids) w):=by
 obtain ⟨Ln,Ll,P⟩:=parts 0 f kids (ix 0) (hix 0)
 have hn1:∀ kk,nodesT 1 (.nd f kk)=[f]:=nodes_one f
 have hpm:(hxT 0 f kids++(A++R)).Perm (f::(lfT 0 (kids (ix 0))++(A++(Ll++R)))):=perm_of fun a=>by
  have h1:=P.l0 a
  simp only [List.count_append,hx_count,hn1,List.count_cons,List.count_nil] at h1 ⊢
  omega
 obtain ⟨hw,hh⟩:=T.holds (ix 0) (hix 0)
 have PRE:LPre rd A s f (ix 0) (kids (ix 0)) (Ll++R):=⟨hix 0,T.good.perm hpm,fun x hx'=>T.off x hx' f (by rw [hn1];exact List.mem_singleton.2 rfl),hh,hw,by rw [← hpm.length_eq];exact hN⟩
 obtain ⟨w1,hw1⟩:∃ w1,w1=w.alloc (.cells (visC ix v.grow v.prune (.func (.func fn) #[] caps)).toArray 113):=⟨_,rfl⟩
 have HB1:=hid (show Below w.heap.size w w1 by rw [hw1];exact bal _)
 have HR1:=hid (show Row w1 w.heap.size 113 (visC ix v.grow v.prune (.func (.func fn) #[] caps)) by rw [hw1];exact Row.new w _ _)
 have HCL:=hid (LG s f (ix 0) (kids (ix 0)) (Ll++R) ws w1 (H.below HB1.out) (hP0 _ _ (EX.of_below HB1.out) h0) PRE hp)
 have HW1:=hid hw1
 have hent:=hen
 unfold Enters at hent
 have HZ:=hid (show downT v ix 0 s f kids=((v.leaf s f (ix 0) (kids (ix 0))).1,updK kids (ix 0) (v.leaf s f (ix 0) (kids (ix 0))).2.1,(v.leaf s f (ix 0) (kids (ix 0))).2.2) from rfl)
 rw [HZ.out]
 show Calls _ _ _ _ (DownP w0 F t p g h c m tb root fr P1 S _ (kids (ix 0)) w)
 generalize kids (ix 0)=ch at *
 clear hw1 PRE hw hh hpm P T H h0 LG hN HZ
 unfold visC
 go_enter Tryz.func58,Tryz.ntmps58
 go_wp2_with fail
 unfold visC at HW1
 rw [← HW1.out]
 have g0:=HR1.out.cell 0 (by simp [visC])
 have g6:=HR1.out.cell 6 (by simp [visC])
 simp only [visC,List.getElem_cons_zero,List.getElem_cons_succ] at g0 g6
 have hrl:=HR1.out.lt
 go_wp2_with fail
 refine (HCL.out).mono ?_
 rintro e w2 ⟨rfl,ht2,he2,hp2⟩
 have HT2:=hid ht2
 have HE2:=hid he2
 have HP2:=hid hp2
 clear ht2 he2 hp2 g0 g6 hrl
 go_wp2_with fail
 go_ret
 exact ⟨rfl,HT2.out,(EX.of_below HB1.out).trans HE2.out,HP2.out⟩
end
section
variable {w0:World}{F:Nat}{t:FT}{p g h c m tb root:Nat}{fr:Bool}{v:Vis}{rd:Int→Int→List UInt8 × Int}{A:List Nat}{B:Int→List Nat}{Pr:CC→Prop}{Pc:Tr→Prop}{P0:World→Prop}{P1:Tr→World→Prop}{S:Nat→Prop}{fn:Nat}{caps:Array Value}{ix:Nat→Nat}
set_option maxRecDepth 100000 in
set_option maxHeartbeats 8000000 in
theorem down_there (_hen:Enters fn)(hS:∀ b,cS g h c m b→S b)(hP0:∀ w w',EX (cS g h c m) w w'→P0 w→P0 w')(hP1:∀ ch w w',EX (cS g h c m) w w'→P1 ch w→P1 ch w')(LO:LeafOk v rd A B Pr Pc)(hBl:∀ e,(B e).length≤A.length)(hix:∀ j,ix j<512)(NB:Nat)(hNB:∀ b,S b→b<NB)(k:Nat)(hk2:k+1≤3)
 (IH:∀ (lv:Int) (s:CC) (f:Nat) (kids:Nat→Tr) (R ws:List Nat) (w:World),lv=(k:Int)+1→NB≤w.heap.size→TW w0 F t p g h c m tb s ws root fr w→P0 w→TI rd s k f kids (A++R)→Pr s→Pc (lookT ix k kids)→(hxT k f kids++(A++R)).length+k≤3000000→
  Calls Tryz.prog 58 #[.pointer (some ⟨tb,0,none⟩),.int .i64 (f:Int),.int .i64 lv,.agg (visC ix v.grow v.prune (.func (.func fn) #[] caps)).toArray] w (DownP w0 F t p g h c m tb root fr P1 S (downT v ix k s f kids) (lookT ix k kids) w))
 (lv:Int) (s:CC) (f g1:Nat) (kids kk:Nat→Tr) (R ws:List Nat) (w:World) (hlv:lv=(k:Int)+2) (hwN:NB≤w.heap.size) (H:TW w0 F t p g h c m tb s ws root fr w) (h0:P0 w) (T:TI rd s (k+1) f kids (A++R)) (hp:Pr s) (hc:Pc (lookT ix (k+1) kids)) (hN:(hxT (k+1) f kids++(A++R)).length+(k+1)≤3000000) (hk:kids (ix (k+1))=.nd g1 kk):
 Calls Tryz.prog 58 #[.pointer (some ⟨tb,0,none⟩),.int .i64 (f:Int),.int .i64 lv,.agg (visC ix v.grow v.prune (.func (.func fn) #[] caps)).toArray] w (DownP w0 F t p g h c m tb root fr P1 S (downT v ix (k+1) s f kids) (lookT ix (k+1) kids) w):=by
 have hi:=hix (k+1)
 obtain ⟨hf,hf0⟩:=T.root
 obtain ⟨hw,hh⟩:=T.holds (ix (k+1)) hi
 rw [hk] at hw hh
 obtain ⟨w1,hw1⟩:∃ w1,w1=w.alloc (.cells (visC ix v.grow v.prune (.func (.func fn) #[] caps)).toArray 113):=⟨_,rfl⟩
 have HB1:=hid (show Below w.heap.size w w1 by rw [hw1];exact bal _)
 have HR1:=hid (show Row w1 w.heap.size 113 (visC ix v.grow v.prune (.func (.func fn) #[] caps)) by rw [hw1];exact Row.new w _ _)
 have H1:=hid (H.below HB1.out)
 have HNS:=hid (show ¬ S w.heap.size from fun e=>by have:=hNB _ e;omega)
 have HW1:=hid hw1
 have HPP:=hid (hP0 _ _ (EX.of_below HB1.out) h0)
 obtain ⟨j,hj⟩:∃ j,j=k+1:=⟨_,rfl⟩
 have ew:wrap64 (lv-1)=(j:Int):=by rw [IntWalk.wrap64_in _ ⟨by omega,by omega⟩];omega
 have d1:(lv==(1:Int))=false:=by simp;omega
 have ez:(0:Int)≤(j:Int):=by omega
 have eb:(j:Int)<4:=by omega
 have HGI:=hid (fun (W:World) (hr:Row W w.heap.size 113 (visC ix v.grow v.prune (.func (.func fn) #[] caps)))=>show W.cell? ⟨w.heap.size,j,none⟩=some (.int .i64 (ix (k+1):Int)) by
  rw [hr.cell',hj]
  have:k+1=1∨k+1=2∨k+1=3:=by omega
  rcases this with e|e|e <;> rw [e] <;> rfl)
 have HGA:=hid (fun (W:World) (hr:Row W w.heap.size 113 (visC ix v.grow v.prune (.func (.func fn) #[] caps)))=>show (W.cell? ⟨w.heap.size,0,none⟩=some (.int .i64 (ix 0:Int))∧W.cell? ⟨w.heap.size,1,none⟩=some (.int .i64 (ix 1:Int))∧W.cell? ⟨w.heap.size,2,none⟩=some (.int .i64 (ix 2:Int))∧W.cell? ⟨w.heap.size,3,none⟩=some (.int .i64 (ix 3:Int))∧W.cell? ⟨w.heap.size,4,none⟩=some (.bool v.grow)∧W.cell? ⟨w.heap.size,5,none⟩=some (.bool v.prune)∧W.cell? ⟨w.heap.size,6,none⟩=some (.func (.func fn) #[] caps))∧w.heap.size<W.heap.size from
  ⟨⟨hr.cell 0 (by simp [visC]),hr.cell 1 (by simp [visC]),hr.cell 2 (by simp [visC]),hr.cell 3 (by simp [visC]),hr.cell 4 (by simp [visC]),hr.cell 5 (by simp [visC]),hr.cell 6 (by simp [visC])⟩,hr.lt⟩)
 have HT:=hid T
 have HJ:=hid hj
 have HSS:=hid hS
 have HQ1:=hid hP1
 obtain ⟨Rr,hRr⟩:∃ Rr,Rr=downT v ix (k+1) s f kids:=⟨_,rfl⟩
 rw [← hRr]
 obtain ⟨Ln,Ll,P⟩:=parts (k+1) f kids (ix (k+1)) hi
 have hpm:(hxT (k+1) f kids++(A++R)).Perm (hxT k g1 kk++(A++(f::(Ln++(Ll++R))))):=perm_of fun a=>by
  have h1:=P.n0 a
  have h2:=P.l0 a
  rw [hk] at h1 h2
  simp only [List.count_append,hx_count,List.count_cons,List.count_nil] at h1 h2 ⊢
  omega
 have hnd:=fun a=>cnt_nodup T.nd a
 have hC:TI rd s k g1 kk (A++(f::(Ln++(Ll++R)))):=by
  refine ⟨T.good.perm hpm,nodup_cnt fun a=>?_,fun x hx' q hh'=>T.off x hx' q (cnt_mem ?_),hh,(T.full _ hi g1 kk hk).2⟩
  ·have h1:=P.n0 a
   have h2:=hnd a
   rw [hk] at h1
   omega
  ·have h1:=P.n0 q
   rw [hk] at h1
   have:=mem_cnt hh'
   omega
 have HC:=hid hC
 obtain ⟨hg1,hg10⟩:=hC.root
 have hfl:=H.cw.pool.n2
 have HFL:=hid hfl
 have HX:=hid (show (g1*4096+1:Nat)<1152921504606846976 by omega)
 have HD:=hid (downT_ok LO hix k s g1 kk (f::(Ln++(Ll++R))) hp (by rw [lookT_nd hk] at hc;exact hc) hC)
 have HWO:=hid (word_any w0 F t p g h c m tb s ws root fr w1 H1.out f (ix (k+1)) _ hw (fun _=>hf0) hi (by have:=HX.out;show g1*4096+1<_;omega))
 rw [show wdT (.nd g1 kk)=g1*4096+1 from rfl] at HWO
 have HFO:=hid (fun W=>frameOf_any (g1*4096+1) HX.out W)
 rw [show (g1*4096+1)/4096=g1 by omega] at HFO
 have HE0:=hid (hRr.trans (downT_nd (v:=v) (s:=s) (f:=f) hk))
 clear hRr
 rw [lookT_nd hk]
 have HIH:=hid (fun (W:World) (hW:NB≤W.heap.size) (hT:TW w0 F t p g h c m tb s ws root fr W) (hP:P0 W)=>IH (j:Int) s g1 kk (f::(Ln++(Ll++R))) ws W (by omega) hW hT hP hC hp (by rw [lookT_nd hk] at hc;exact hc) (by rw [← hpm.length_eq];omega))
 have HWN:=hid hwN
 have HHP:=hid (fun W (he:EX (cS g h c m) w1 W)=>hP0 w1 W he HPP.out)
 have HFF:=hid (⟨hf,hf0⟩:∃ hf:f<s.fs.length,s.fs[f].cnt≠0)
 have HFR:=hid (show f∈f::(Ln++(Ll++R)) from List.mem_cons_self ..)
 have HRL:=hid (show (A++(f::(Ln++(Ll++R)))).length≤3000000 by
  have:=hpm.length_eq
  simp only [List.length_append] at this hN ⊢
  omega)
 obtain ⟨X,hX⟩:∃ X,X=g1*4096+1:=⟨_,rfl⟩
 rw [← hX] at HWO HFO
 have d2:((X:Int)==(0:Int))=false:=by simp;omega
 generalize f::(Ln++(Ll++R))=RR at *
 obtain ⟨i,hii⟩:∃ i,i=ix (k+1):=⟨_,rfl⟩
 rw [← hii] at HWO HE0 HGI
 have HI:=hid (show i<512 by rw [hii];exact hi)
 clear hw1 H h0 T hw hh hi hf hf0 hj hnd P hpm hC hg1 hg10 hfl hX hii IH hP0 hP1 hS hix LO hN hwN hk hNB hp hc hk2 hlv
 show Calls _ _ #[_,_,_,.agg #[.int .i64 (ix 0:Int),.int .i64 (ix 1:Int),.int .i64 (ix 2:Int),.int .i64 (ix 3:Int),.bool v.grow,.bool v.prune,.func (.func fn) #[] caps]] _ _
 have HW1':=hid (show w.alloc (.cells #[.int .i64 (ix 0:Int),.int .i64 (ix 1:Int),.int .i64 (ix 2:Int),.int .i64 (ix 3:Int),.bool v.grow,.bool v.prune,.func (.func fn) #[] caps] 113)=w1 from HW1.out.symm)
 have gj:=HGI.out w1 HR1.out
 rw [← HW1'.out] at gj
 go_enter Tryz.func58,Tryz.ntmps58
 go_wp2_with fail
 rw [HW1'.out]
 refine (HWO.out).mono ?_
 rintro e w2 ⟨rfl,hb2⟩
 have HB2:=hid hb2
 have H2:=hid (H1.out.below hb2)
 have HR2:=hid (HR1.out.below hb2 HR1.out.lt)
 have HI2:=hid (HIH.out w2 (by have:=HWN.out;have:=HB1.out.size;have:=hb2.size;omega) H2.out (HHP.out w2 (EX.of_below hb2)))
 clear hb2 gj
 go_wp2_with fail
 refine (HFO.out w2).mono ?_
 rintro e w2' ⟨rfl,rfl⟩
 obtain ⟨⟨g0,g1',g2,g3,g4,g5,g6⟩,hrl⟩:=HGA.out w2 HR2.out
 go_wp2_with fail
 refine (HI2.out).mono ?_
 rintro e w3 ⟨rfl,⟨ws3,ht3⟩,he3,hp3⟩
 have HT3:=hid ht3
 have HE3:=hid he3
 have HP3:=hid hp3
 have HR3:=hid (he3.row HR2.out HNS.out)
 clear ht3 he3 hp3 g0 g1' g2 g3 g4 g5 g6 hrl HI2
 obtain ⟨⟨g0,g1',g2,g3,g4,g5,g6⟩,hrl⟩:=HGA.out w3 HR3.out
 have HEX:=hid (show EX S w w3 from (EX.of_below (HB1.out.trans (HB2.out.mono HB1.out.size))).trans HE3.out)
 generalize downT v ix k s g1 kk=r at *
 cases hpr:v.prune with
 | false=>
  rw [hpr] at g5
  have hR:=HE0.out
  simp only [hpr,Bool.false_and,Bool.false_eq_true,if_false] at hR
  have HR:=hid hR
  clear hR
  clear hpr g0 g1' g2 g3 g4 g6
  go_wp2_with fail
  go_ret
  exact ⟨by rw [HR.out];rfl,⟨ws3,by rw [HR.out];exact HT3.out⟩,HEX.out,HP3.out⟩
 | true=>
  rw [hpr] at g5
  have hR:=HE0.out
  simp only [hpr,Bool.true_and] at hR
  have HR0:=hid hR
  clear hR
  have hD:=HD.out
  obtain ⟨hg2,hg20⟩:=hD.ti.root
  have HBA:=hid (bare_any w0 F t p g h c m tb r.1 ws3 root fr w3 HT3.out g1 r.2.1 hg2 hg20 (fun q hq=>(hD.ti.holds q hq).1))
  clear hg2 hg20 hD hpr g0 g1' g2 g3 g4 g6
  cases hbr:bareK r.2.1 with
  | false=>
   rw [hbr] at HBA
   have hR:=HR0.out
   simp only [hbr,Bool.false_eq_true,if_false] at hR
   have HR:=hid hR
   clear hR
   go_wp2_with fail
   refine (HBA.out).mono ?_
   rintro e w4 ⟨rfl,hb4⟩
   have HB4:=hid hb4
   clear hb4 g5 hrl
   go_wp2_with fail
   go_ret
   exact ⟨by rw [HR.out];rfl,⟨ws3,by rw [HR.out];exact HT3.out.below HB4.out⟩,HEX.out.trans (EX.of_below HB4.out),HQ1.out _ _ _ (EX.of_below HB4.out) HP3.out⟩
  | true=>
   rw [hbr] at HBA
   have hR:=HR0.out
   simp only [hbr,if_true] at hR
   have HR:=hid hR
   clear hR
   have HBR:=hid hbr
   clear hbr
   go_wp2_with fail
   refine (HBA.out).mono ?_
   rintro e w4 ⟨rfl,hb4⟩
   have HB4:=hid hb4
   have H4:=hid (HT3.out.below hb4)
   clear hb4 g5 hrl
   have HPO:=hid (tpool_any w0 F t p g h c m tb r.1 ws3 root fr w4 H4.out)
   have HG1:=hid (show Good rd r.1 (g1::(B r.2.2++RR)) from HD.out.ti.good.perm (perm_of fun a=>by
    simp only [List.count_append,hx_count,List.count_cons,nodesT_bare HBR.out,lfT_bare HBR.out,List.count_nil]
    omega))
   have HDN:=hid (down_any p g h r.1.fs ws3 (g1:Int) w4 H4.out.cw.pool (fun x hx'=>by
    have h1:=HG1.out.small x hx'
    have h2:=H4.out.cw.few
    have h3:=HRL.out
    have h4:=hBl r.2.2
    simp only [List.length_cons,List.length_append] at h1 h3
    omega))
   go_wp2_with fail
   refine (HPO.out).mono ?_
   rintro e w5 ⟨rfl,rfl⟩
   go_wp2_with fail
   refine (HDN.out).mono ?_
   rintro e w5 ⟨rfl,⟨ws5,hp5⟩,he5⟩
   have H5:=hid (show TW w0 F t p g h c m tb (dnC r.1 g1) ws5 root fr w5 from H4.out.call (H4.out.cw.pool1 hp5 he5).1 (H4.out.cw.pool1 hp5 he5).2)
   have HE5:=hid (ex_cS (c:=c) (m:=m) he5)
   clear hp5 he5
   obtain ⟨hf2,hf3⟩:=HG1.out.down.at_ (show f∈B r.2.2++RR from List.mem_append_right _ HFR.out)
   have HLY:=hid (lay_any w0 F t p g h c m tb (dnC r.1 g1) ws5 root fr w5 H5.out f i 0 hf2 hf3 HI.out)
   clear hf2 hf3
   go_wp2_with fail
   refine (HLY.out).mono ?_
   rintro e w6 ⟨rfl,ht6,he6⟩
   have HT6:=hid ht6
   have HE6:=hid he6
   clear ht6 he6
   go_wp2_with fail
   go_ret
   have h46:EX (cS g h c m) w3 w6:=((EX.of_below HB4.out).trans HE5.out).trans HE6.out
   exact ⟨by rw [HR.out];rfl,⟨ws5,by rw [HR.out];exact HT6.out⟩,HEX.out.trans (h46.mono fun b _ hb=>HSS.out b hb),HQ1.out _ _ _ h46 HP3.out⟩
end
section
variable {w0:World}{F:Nat}{t:FT}{p g h c m tb root:Nat}{fr:Bool}{v:Vis}{rd:Int→Int→List UInt8 × Int}{A:List Nat}{B:Int→List Nat}{Pr:CC→Prop}{Pc:Tr→Prop}{P0:World→Prop}{P1:Tr→World→Prop}{S:Nat→Prop}{fn:Nat}{caps:Array Value}{ix:Nat→Nat}
set_option maxRecDepth 100000 in
set_option maxHeartbeats 8000000 in
theorem down_gone (_hen:Enters fn)(hS:∀ b,cS g h c m b→S b)(hP0:∀ w w',EX (cS g h c m) w w'→P0 w→P0 w')(hP1:∀ ch w w',EX (cS g h c m) w w'→P1 ch w→P1 ch w')(LO:LeafOk v rd A B Pr Pc)(hBl:∀ e,(B e).length≤A.length)(hix:∀ j,ix j<512)(NB:Nat)(hNB:∀ b,S b→b<NB)(h01:∀ w,P0 w→P1 .no w)(k:Nat)(hk2:k+1≤3)
 (IH:∀ (lv:Int) (s:CC) (f:Nat) (kids:Nat→Tr) (R ws:List Nat) (w:World),lv=(k:Int)+1→NB≤w.heap.size→TW w0 F t p g h c m tb s ws root fr w→P0 w→TI rd s k f kids (A++R)→Pr s→Pc (lookT ix k kids)→(hxT k f kids++(A++R)).length+k≤3000000→
  Calls Tryz.prog 58 #[.pointer (some ⟨tb,0,none⟩),.int .i64 (f:Int),.int .i64 lv,.agg (visC ix v.grow v.prune (.func (.func fn) #[] caps)).toArray] w (DownP w0 F t p g h c m tb root fr P1 S (downT v ix k s f kids) (lookT ix k kids) w))
 (lv:Int) (s:CC) (f:Nat) (kids:Nat→Tr) (R ws:List Nat) (w:World) (hlv:lv=(k:Int)+2) (hwN:NB≤w.heap.size) (H:TW w0 F t p g h c m tb s ws root fr w) (h0:P0 w) (T:TI rd s (k+1) f kids (A++R)) (_hp:Pr s) (hc:Pc (lookT ix (k+1) kids)) (hN:(hxT (k+1) f kids++(A++R)).length+(k+1)≤3000000) (hk:kids (ix (k+1))=.no):
 Calls Tryz.prog 58 #[.pointer (some ⟨tb,0,none⟩),.int .i64 (f:Int),.int .i64 lv,.agg (visC ix v.grow v.prune (.func (.func fn) #[] caps)).toArray] w (DownP w0 F t p g h c m tb root fr P1 S (downT v ix (k+1) s f kids) (lookT ix (k+1) kids) w):=by
 have hi:=hix (k+1)
 obtain ⟨hf,hf0⟩:=T.root
 obtain ⟨hw,hh⟩:=T.holds (ix (k+1)) hi
 rw [hk] at hw hh
 obtain ⟨w1,hw1⟩:∃ w1,w1=w.alloc (.cells (visC ix v.grow v.prune (.func (.func fn) #[] caps)).toArray 113):=⟨_,rfl⟩
 have HB1:=hid (show Below w.heap.size w w1 by rw [hw1];exact bal _)
 have HR1:=hid (show Row w1 w.heap.size 113 (visC ix v.grow v.prune (.func (.func fn) #[] caps)) by rw [hw1];exact Row.new w _ _)
 have H1:=hid (H.below HB1.out)
 have HNS:=hid (show ¬ S w.heap.size from fun e=>by have:=hNB _ e;omega)
 have HW1:=hid hw1
 have HPP:=hid (hP0 _ _ (EX.of_below HB1.out) h0)
 obtain ⟨j,hj⟩:∃ j,j=k+1:=⟨_,rfl⟩
 have ew:wrap64 (lv-1)=(j:Int):=by rw [IntWalk.wrap64_in _ ⟨by omega,by omega⟩];omega
 have d1:(lv==(1:Int))=false:=by simp;omega
 have ez:(0:Int)≤(j:Int):=by omega
 have eb:(j:Int)<4:=by omega
 have HGI:=hid (fun (W:World) (hr:Row W w.heap.size 113 (visC ix v.grow v.prune (.func (.func fn) #[] caps)))=>show W.cell? ⟨w.heap.size,j,none⟩=some (.int .i64 (ix (k+1):Int)) by
  rw [hr.cell',hj]
  have:k+1=1∨k+1=2∨k+1=3:=by omega
  rcases this with e|e|e <;> rw [e] <;> rfl)
 have HGA:=hid (fun (W:World) (hr:Row W w.heap.size 113 (visC ix v.grow v.prune (.func (.func fn) #[] caps)))=>show (W.cell? ⟨w.heap.size,0,none⟩=some (.int .i64 (ix 0:Int))∧W.cell? ⟨w.heap.size,1,none⟩=some (.int .i64 (ix 1:Int))∧W.cell? ⟨w.heap.size,2,none⟩=some (.int .i64 (ix 2:Int))∧W.cell? ⟨w.heap.size,3,none⟩=some (.int .i64 (ix 3:Int))∧W.cell? ⟨w.heap.size,4,none⟩=some (.bool v.grow)∧W.cell? ⟨w.heap.size,5,none⟩=some (.bool v.prune)∧W.cell? ⟨w.heap.size,6,none⟩=some (.func (.func fn) #[] caps))∧w.heap.size<W.heap.size from
  ⟨⟨hr.cell 0 (by simp [visC]),hr.cell 1 (by simp [visC]),hr.cell 2 (by simp [visC]),hr.cell 3 (by simp [visC]),hr.cell 4 (by simp [visC]),hr.cell 5 (by simp [visC]),hr.cell 6 (by simp [visC])⟩,hr.lt⟩)
 have HT:=hid T
 have HJ:=hid hj
 have HSS:=hid hS
 have HQ1:=hid hP1
 obtain ⟨Rr,hRr⟩:∃ Rr,Rr=downT v ix (k+1) s f kids:=⟨_,rfl⟩
 rw [← hRr]
 have HWO:=hid (word_any w0 F t p g h c m tb s ws root fr w1 H1.out f (ix (k+1)) 0 hw (fun _=>hf0) hi (by omega))
 have HFO:=hid (fun W=>frameOf_any 0 (by omega) W)
 rw [lookT_no hk]
 have H01:=hid h01
 have HHP:=hid (fun W (he:EX (cS g h c m) w1 W)=>hP0 w1 W he HPP.out)
 have HWN:=hid hwN
 have hfl:=H.cw.pool.n2
 obtain ⟨i,hii⟩:∃ i,i=ix (k+1):=⟨_,rfl⟩
 rw [← hii] at HWO HGI
 have HI:=hid (show i<512 by rw [hii];exact hi)
 have HW1':=hid (show w.alloc (.cells #[.int .i64 (ix 0:Int),.int .i64 (ix 1:Int),.int .i64 (ix 2:Int),.int .i64 (ix 3:Int),.bool v.grow,.bool v.prune,.func (.func fn) #[] caps] 113)=w1 from hw1.symm)
 cases hgr:v.grow with
 | false=>
  have HR:=hid (hRr.trans (downT_stay (v:=v) (ix:=ix) (k:=k) (s:=s) (f:=f) (kids:=kids) hk hgr))
  have gj:=HGI.out w1 HR1.out
  rw [← HW1'.out] at gj
  rw [hgr] at HW1' gj
  clear hw1 H h0 T hw hh hi hf hf0 hj hii IH hP0 hP1 hS hix LO hN hwN hk hNB _hp hc hk2 hlv hRr h01
  show Calls _ _ #[_,_,_,.agg #[.int .i64 (ix 0:Int),.int .i64 (ix 1:Int),.int .i64 (ix 2:Int),.int .i64 (ix 3:Int),.bool false,.bool v.prune,.func (.func fn) #[] caps]] _ _
  go_enter Tryz.func58,Tryz.ntmps58
  go_wp2_with fail
  rw [HW1'.out]
  refine (HWO.out).mono ?_
  rintro e w2 ⟨rfl,hb2⟩
  have HB2:=hid hb2
  have HR2:=hid (HR1.out.below hb2 HR1.out.lt)
  clear hb2 gj
  go_wp2_with fail
  refine (HFO.out w2).mono ?_
  rintro e w2' ⟨rfl,rfl⟩
  obtain ⟨⟨g0,g1',g2,g3,g4,g5,g6⟩,hrl⟩:=HGA.out w2 HR2.out
  rw [hgr] at g4
  clear g0 g1' g2 g3 g5 g6
  go_wp2_with fail
  go_ret
  exact ⟨by rw [HR.out];rfl,⟨ws,by rw [HR.out];exact H1.out.below HB2.out⟩,EX.of_below (HB1.out.trans (HB2.out.mono HB1.out.size)),H01.out _ (HHP.out _ (EX.of_below HB2.out))⟩
 | true=>
  have hlen0:(hxT (k+1) f kids++(A++R)).length≤1000000000:=by omega
  have HTC:=hid (takC_case T.good)
  have HTK:=hid (fun (W:World) (hT:TW w0 F t p g h c m tb s ws root fr W)=>ctake_any w0 F t p g h c m s ws rd _ W hT.cw T.good hlen0)
  have gj:=HGI.out w1 HR1.out
  rw [← HW1'.out] at gj
  rw [hgr] at HW1' gj
  show Calls _ _ #[_,_,_,.agg #[.int .i64 (ix 0:Int),.int .i64 (ix 1:Int),.int .i64 (ix 2:Int),.int .i64 (ix 3:Int),.bool true,.bool v.prune,.func (.func fn) #[] caps]] _ _
  rcases HTC.out with ⟨m1,s1,ht,TK⟩|⟨ht,hz⟩
  rotate_left
  ·have HR:=hid (hRr.trans (downT_none (v:=v) (ix:=ix) (k:=k) (s:=s) (f:=f) (kids:=kids) hk hgr ht (by decide)))
   rw [ht] at HTK
   clear hw1 H h0 T hw hh hi hf hf0 hj hii IH hP0 hP1 hS hix LO hN hwN hk hNB _hp hc hk2 hlv hRr h01 HTC ht hlen0
   go_enter Tryz.func58,Tryz.ntmps58
   go_wp2_with fail
   rw [HW1'.out]
   refine (HWO.out).mono ?_
   rintro e w2 ⟨rfl,hb2⟩
   have HB2:=hid hb2
   have HR2:=hid (HR1.out.below hb2 HR1.out.lt)
   have H2:=hid (H1.out.below hb2)
   clear hb2 gj
   go_wp2_with fail
   refine (HFO.out w2).mono ?_
   rintro e w2' ⟨rfl,rfl⟩
   obtain ⟨⟨g0,g1',g2,g3,g4,g5,g6⟩,hrl⟩:=HGA.out w2 HR2.out
   rw [hgr] at g4
   clear g0 g1' g2 g3 g5 g6
   obtain ⟨q0,q1,q2⟩:=H2.out.cells
   have hql:=H2.out.tab.lt
   go_wp2_with fail
   refine (HTK.out w2 H2.out).mono ?_
   rintro e w3 ⟨rfl,⟨ws3,hc3⟩,he3⟩
   have HT3:=hid (H2.out.call hc3 he3)
   have HE3:=hid he3
   clear hc3 he3 q0 q1 q2 hql g4 hrl
   go_wp2_with fail
   go_ret
   have h13:EX (cS g h c m) w1 w3:=(EX.of_below HB2.out).trans HE3.out
   exact ⟨by rw [HR.out];rfl,⟨ws3,by rw [HR.out];exact HT3.out⟩,(EX.of_below HB1.out).trans (h13.mono fun b _ hb=>HSS.out b hb),H01.out _ (HHP.out _ h13)⟩
  ·have HE0:=hid (hRr.trans (downT_took (v:=v) (ix:=ix) (k:=k) (s:=s) (f:=f) (kids:=kids) hk hgr ht))
   rw [ht] at HTK
   obtain ⟨Ln,Ll,P⟩:=parts (k+1) f kids (ix (k+1)) hi
   have hm0:=TK.held
   have hpm:(m1::(hxT (k+1) f kids++(A++R))).Perm (hxT k m1 noK++(A++(f::(Ln++(Ll++R))))):=perm_of fun a=>by
    have h1:=P.n0 a
    have h2:=P.l0 a
    rw [hk,nodesT_no] at h1
    rw [hk,lfT_no] at h2
    rw [List.count_append (l₁:=hxT k m1 noK),hx_count,nodesT_bare bare_noK,lfT_bare bare_noK]
    simp only [List.count_append,hx_count,List.count_cons,List.count_nil] at h1 h2 ⊢
    omega
   have hC:TI rd s1 k m1 noK (A++(f::(Ln++(Ll++R)))):=by
    refine ⟨(TK.good T.good).perm hpm,by rw [nodesT_bare bare_noK];exact nd_one m1,fun x hx' q hh'=>?_,fun q hq=>⟨?_,holds_no _ _⟩,?_⟩
    ·rw [nodesT_bare bare_noK,List.mem_singleton] at hh'
     rw [hh']
     exact TK.no x hx'
    ·have:=wdAt_zero (fs:=s.fs) TK.lt hq
     rw [← TK.fs] at this
     exact this
    ·cases k with
     | zero=>trivial
     | succ k=>exact fun q hq g' kk' hkk=>by cases hkk
   have HM1:=hid (show m1<1024 by have:=TK.lt;omega)
   have hpr:v.prune=false:=LO.excl hgr
   have HD:=hid (downT_ok LO hix k s1 m1 noK (f::(Ln++(Ll++R))) (LO.pre hgr s1) (by rw [lookT_noK];rw [lookT_no hk] at hc;exact hc) hC)
   have HIH:=hid (fun (W:World) (ws1:List Nat) (hW:NB≤W.heap.size) (hT:TW w0 F t p g h c m tb s1 ws1 root fr W) (hP:P0 W)=>IH (j:Int) s1 m1 noK (f::(Ln++(Ll++R))) ws1 W (by omega) hW hT hP hC (LO.pre hgr s1) (by rw [lookT_noK];rw [lookT_no hk] at hc;exact hc) (by rw [← hpm.length_eq,List.length_cons];omega))
   rw [lookT_noK] at HIH
   have HFR:=hid (show f∈f::(Ln++(Ll++R)) from List.mem_cons_self ..)
   have HRL:=hid (show (A++(f::(Ln++(Ll++R)))).length≤3000000 by
    have:=hpm.length_eq
    simp only [List.length_append,List.length_cons] at this hN ⊢
    omega)
   have HNW:=hid (fun W=>nodeWord_any m1 (by have:=HM1.out;omega) W)
   obtain ⟨X,hX⟩:∃ X,X=m1*4096+1:=⟨_,rfl⟩
   rw [← hX] at HNW HE0
   rw [← hii] at HE0
   generalize f::(Ln++(Ll++R))=RR at *
   clear hw1 H h0 T hw hh hi hf hf0 hj hii IH hP0 hP1 hS hix LO hN hwN hk hNB _hp hc hk2 hlv hRr h01 HTC ht hlen0 TK hm0 P hpm hC hX
   simp only [hgr,hpr] at HIH HGA
   go_enter Tryz.func58,Tryz.ntmps58
   rw [hpr] at HW1' gj ⊢
   go_wp2_with fail
   rw [HW1'.out]
   refine (HWO.out).mono ?_
   rintro e w2 ⟨rfl,hb2⟩
   have HB2:=hid hb2
   have HR2:=hid (HR1.out.below hb2 HR1.out.lt)
   have H2:=hid (H1.out.below hb2)
   clear hb2 gj
   go_wp2_with fail
   refine (HFO.out w2).mono ?_
   rintro e w2' ⟨rfl,rfl⟩
   rw [hgr,hpr] at HR2
   obtain ⟨⟨g0,g1',g2,g3,g4,g5,g6⟩,hrl⟩:=HGA.out w2 HR2.out
   clear g0 g1' g2 g3 g5 g6
   obtain ⟨q0,q1,q2⟩:=H2.out.cells
   have hql:=H2.out.tab.lt
   go_wp2_with fail
   refine (HTK.out w2 H2.out).mono ?_
   rintro e w3 ⟨rfl,⟨ws3,hc3⟩,he3⟩
   have HT3:=hid (H2.out.call hc3 he3)
   have HE3:=hid (show EX (cS g h c m) w1 w3 from (EX.of_below HB2.out).trans he3)
   have HR3:=hid (he3.row HR2.out (fun e=>HNS.out (HSS.out _ e)))
   have HI3:=hid (HIH.out w3 ws3 (by have:=HWN.out;have:=HB1.out.size;have:=HB2.out.size;have:=he3.size;omega) HT3.out (HHP.out w3 HE3.out))
   clear hc3 he3 q0 q1 q2 hql g4 hrl
   obtain ⟨⟨g0,g1',g2,g3,g4,g5,g6⟩,hrl⟩:=HGA.out w3 HR3.out
   go_wp2_with fail
   refine (HI3.out).mono ?_
   rintro e w4 ⟨rfl,⟨ws4,ht4⟩,he4,hp4⟩
   have HT4:=hid ht4
   have HP4:=hid hp4
   have HEX:=hid (show EX S w w4 from ((EX.of_below HB1.out).trans (HE3.out.mono fun b _ hb=>HSS.out b hb)).trans he4)
   clear ht4 he4 hp4 g0 g1' g2 g3 g4 g5 g6 hrl HI3
   generalize downT v ix k s1 m1 noK=r at *
   obtain ⟨er,her⟩:∃ er,er=r.2.2:=⟨_,rfl⟩
   have HER:=hid her
   rw [← her]
   clear her
   by_cases he0:er=0
   ·have hR:=HE0.out
    rw [if_pos (by rw [← HER.out];exact he0)] at hR
    have HR:=hid hR
    have d3:(er==(0:Int))=true:=by simpa using he0
    have d3d:decide (er=0)=true:=decide_eq_true he0
    obtain ⟨hf2,hf3⟩:=HD.out.ti.good.at_ (show f∈_ from List.mem_append_right _ (List.mem_append_right _ HFR.out))
    have HLY:=hid (lay_any w0 F t p g h c m tb r.1 ws4 root fr w4 HT4.out f i X hf2 hf3 HI.out)
    clear hf2 hf3 hR he0
    go_wp2_with fail
    refine (HNW.out w4).mono ?_
    rintro e w4' ⟨rfl,rfl⟩
    go_wp2_with fail
    refine (HLY.out).mono ?_
    rintro e w5 ⟨rfl,ht5,he5⟩
    have HT5:=hid ht5
    have HE5:=hid he5
    clear ht5 he5
    go_wp2_with fail
    go_ret
    exact ⟨by rw [HR.out];simp;simpa using d3,⟨ws4,by rw [HR.out];exact HT5.out⟩,HEX.out.trans (HE5.out.mono fun b _ hb=>HSS.out b hb),HQ1.out _ _ _ HE5.out HP4.out⟩
   ·have hR:=HE0.out
    rw [if_neg (by rw [← HER.out];exact he0),← HER.out] at hR
    have HR:=hid hR
    have d3:(er==(0:Int))=false:=by simpa using he0
    have d3d:decide (er=0)=false:=decide_eq_false he0
    have HPO:=hid (tpool_any w0 F t p g h c m tb r.1 ws4 root fr w4 HT4.out)
    have HDN:=hid (down_any p g h r.1.fs ws4 (m1:Int) w4 HT4.out.cw.pool (fun x hx'=>by
     have h1:=HD.out.ti.good.small x hx'
     have h2:=HT4.out.cw.few
     have h3:=HRL.out
     have h4:=hBl r.2.2
     have h5:=HD.out.ti.len
     have h6:=HT4.out.cw.pool.n2
     simp only [List.length_append] at h1 h3
     omega))
    clear hR he0
    go_wp2_with fail
    refine (HPO.out).mono ?_
    rintro e w5 ⟨rfl,rfl⟩
    go_wp2_with fail
    refine (HDN.out).mono ?_
    rintro e w5 ⟨rfl,⟨ws5,hp5⟩,he5⟩
    have H5:=hid (show TW w0 F t p g h c m tb (dnC r.1 m1) ws5 root fr w5 from HT4.out.call (HT4.out.cw.pool1 hp5 he5).1 (HT4.out.cw.pool1 hp5 he5).2)
    have HE5:=hid (ex_cS (c:=c) (m:=m) he5)
    clear hp5 he5
    go_wp2_with fail
    go_ret
    exact ⟨by rw [HR.out];rfl,⟨ws5,by rw [HR.out];exact H5.out⟩,HEX.out.trans (HE5.out.mono fun b _ hb=>HSS.out b hb),HQ1.out _ _ _ HE5.out HP4.out⟩
set_option maxRecDepth 100000 in
/-- Down a tree. -/
theorem tdown_any (hen:Enters fn)(hS:∀ b,cS g h c m b→S b)(hP0:∀ w w',EX (cS g h c m) w w'→P0 w→P0 w')(hP1:∀ ch w w',EX (cS g h c m) w w'→P1 ch w→P1 ch w')(LO:LeafOk v rd A B Pr Pc)(hBl:∀ e,(B e).length≤A.length)(hix:∀ j,ix j<512)(NB:Nat)(hNB:∀ b,S b→b<NB)(h01:∀ w,P0 w→P1 .no w)(LG:LeafGo w0 F t p g h c m tb root fr v rd A Pr P0 P1 S fn caps):∀ (k:Nat),k≤3→∀ (lv:Int) (s:CC) (f:Nat) (kids:Nat→Tr) (R ws:List Nat) (w:World),lv=(k:Int)+1→NB≤w.heap.size→TW w0 F t p g h c m tb s ws root fr w→P0 w→TI rd s k f kids (A++R)→Pr s→Pc (lookT ix k kids)→(hxT k f kids++(A++R)).length+k≤3000000→
 Calls Tryz.prog 58 #[.pointer (some ⟨tb,0,none⟩),.int .i64 (f:Int),.int .i64 lv,.agg (visC ix v.grow v.prune (.func (.func fn) #[] caps)).toArray] w (DownP w0 F t p g h c m tb root fr P1 S (downT v ix k s f kids) (lookT ix k kids) w)
 | 0,_,lv,s,f,kids,R,ws,w,hlv,hwN,H,h0,T,hp,hc,hN=>by
  obtain rfl:lv=1:=by omega
  exact down_zero hen hS hP0 LG hix s f kids R ws w H h0 T hp (by omega)
 | k+1,hk3,lv,s,f,kids,R,ws,w,hlv,hwN,H,h0,T,hp,hc,hN=>by
  have IH:=tdown_any hen hS hP0 hP1 LO hBl hix NB hNB h01 LG k (by omega)
  cases hk:kids (ix (k+1)) with
  | nd g1 kk=>exact down_there hen hS hP0 hP1 LO hBl hix NB hNB k hk3 IH lv s f g1 kids kk R ws w (by omega) hwN H h0 T hp hc hN hk
  | no=>exact down_gone hen hS hP0 hP1 LO hBl hix NB hNB h01 k hk3 IH lv s f kids R ws w (by omega) hwN H h0 T hp hc hN hk
  | lf a b d=>
   have:=(T.holds (ix (k+1)) (hix _)).2
   rw [hk] at this
   exact this.elim
end
end Go.Proofs.YtdjpjfdeeelijaaGreatDoor
