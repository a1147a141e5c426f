/- Package words, in a namespace of its own. -/
import Derived.WalkKit
import Derived.Laws.Bits64b
import Derived.Test.YtdjpjfdeeelijaaGreatDoorRows
import Derived.Test.YtdjpjfdeeelijaaGreatDoorKA
namespace Go.Proofs.YtdjpjfdeeelijaaGreatDoor.Wd
open Go.RowKit
/-- The number that bytes say, the lowest first. -/
def le:List UInt8→Nat
 | []=>0
 | b::r=>b.toNat+256*le r
theorem le_snoc (l:List UInt8)(c:UInt8):le (l++[c])=le l+256 ^ l.length*c.toNat:=by
 induction l with
 | nil=>simp [le]
 | cons b r ih=>simp only [List.cons_append,le,ih,List.length_cons,Nat.pow_succ];rw [Nat.mul_add,← Nat.add_assoc,← Nat.mul_assoc,Nat.mul_comm 256 (256 ^ r.length)]
theorem le_lt (l:List UInt8):le l<256 ^ l.length:=by
 induction l with
 | nil=>simp [le]
 | cons b r ih=>
  simp only [le,List.length_cons,Nat.pow_succ]
  have:=b.toNat_lt
  omega
theorem take_snoc' (l:List UInt8)(q k:Nat)(h:q+k<l.length):(l.drop q).take (k+1)=(l.drop q).take k++[l[q+k]]:=by
 rw [List.take_succ_eq_append_getElem (by simp;omega)]
 simp
theorem le_take (l:List UInt8)(q k:Nat)(h:q+k<l.length):le ((l.drop q).take (k+1))=le ((l.drop q).take k)+256 ^ k*l[q+k].toNat:=by
 rw [take_snoc' l q k h,le_snoc]
 rw [List.length_take,List.length_drop,Nat.min_eq_left (by omega)]
theorem le_take_lt (l:List UInt8)(q k:Nat)(h:q+k≤l.length):le ((l.drop q).take k)<256 ^ k:=by
 have:=le_lt ((l.drop q).take k)
 rwa [List.length_take,List.length_drop,Nat.min_eq_left (by omega)] at this
theorem or_byte (x c k:Nat)(hk:k<8)(hx:x<256 ^ k)(hc:c<256):bits BinOp.or .u64 (x:Int) (IntKind.u64.wrap (IntKind.u64.wrap (c:Int)*2 ^ (8*k)))=((x+256 ^ k*c:Nat):Int):=by
 have e1:(256:Nat) ^ k=2 ^ (8*k):=by rw [Nat.pow_mul]
 have e2:IntKind.u64.wrap (c:Int)=c:=IntWalk.u64_in _ (by omega)
 rw [e2]
 have e3:((c:Int)*2 ^ (8*k))=((2 ^ (8*k)*c:Nat):Int):=by rw [Int.natCast_mul,Int.mul_comm];simp
 rw [e3]
 have hp:(2:Nat) ^ (8*k)≤2 ^ 56:=Nat.pow_le_pow_right (by omega) (by omega)
 have hp':(2:Nat) ^ (8*k)*c≤2 ^ 56*255:=Nat.mul_le_mul hp (by omega)
 rw [IntWalk.u64_in _ (by omega)]
 rw [e1] at hx ⊢
 rw [bits_or_u64_nat _ _ (by omega) (by omega)]
 rw [Nat.or_comm,← Nat.two_pow_add_eq_or_of_lt hx,Nat.add_comm]
/-- The i-th byte of a number, the lowest first. -/
def byteAt (x i:Nat):UInt8:=UInt8.ofNat (x/256 ^ i)
/-- The first k bytes of a number. -/
def leB (x k:Nat):List UInt8:=(List.range k).map (byteAt x)
/-- A list with the first k bytes of a number laid at q. -/
def putB (l:List UInt8)(q x k:Nat):List UInt8:=l.take q++(leB x k++l.drop (q+k))
theorem leB_len (x k:Nat):(leB x k).length=k:=by simp [leB]
theorem leB_succ (x k:Nat):leB x (k+1)=leB x k++[byteAt x k]:=by simp [leB,List.range_succ]
theorem putB_zero (l:List UInt8)(q x:Nat):putB l q x 0=l:=by simp [putB,leB]
theorem putB_len (l:List UInt8)(q x k:Nat)(h:q+k≤l.length):(putB l q x k).length=l.length:=by simp [putB,leB_len];omega
theorem putB_set (l:List UInt8)(q x k:Nat)(h:q+k<l.length):(putB l q x k).set (q+k) (byteAt x k)=putB l q x (k+1):=by
 unfold putB
 rw [List.set_append_right _ _ (by simp;omega),List.set_append_right _ _ (by simp [leB_len];omega)]
 have e:q+k-(List.take q l).length-(leB x k).length=0:=by simp [leB_len];omega
 rw [e,List.drop_eq_getElem_cons h,List.set_cons_zero,leB_succ,List.append_assoc]
 rfl
theorem byteAt_toNat (x i:Nat):(byteAt x i).toNat=x/256 ^ i%256:=by simp [byteAt]
theorem le_leB (x k:Nat):le (leB x k)=x%256 ^ k:=by
 induction k with
 | zero=>simp [leB,le,Nat.mod_one]
 | succ k ih=>
  rw [leB_succ,le_snoc,ih,leB_len,byteAt_toNat,Nat.pow_succ,Nat.mod_mul]
theorem shr_byte (y k:Nat):((y:Int)/2 ^ (8*k)%256)=((byteAt y k).toNat:Int):=by
 rw [byteAt_toNat]
 have e:(256:Nat) ^ k=2 ^ (8*k):=by rw [Nat.pow_mul]
 rw [e]
 simp
end Go.Proofs.YtdjpjfdeeelijaaGreatDoor.Wd
namespace Go.Proofs.YtdjpjfdeeelijaaGreatDoor.Wd
open Go.RowKit
def isSz (n:Int):Bool:=decide (n=1∨n=2∨n=4∨n=8)
structure Sizes (w:World):Prop where
 c0:w.cell? ⟨1,0,none⟩=some (.int .i64 1)
 c1:w.cell? ⟨1,1,none⟩=some (.int .i64 2)
 c2:w.cell? ⟨1,2,none⟩=some (.int .i64 4)
 c3:w.cell? ⟨1,3,none⟩=some (.int .i64 8)
theorem Sizes.below {w w':World}(h:Sizes w)(hb:Below w.heap.size w w'):Sizes w':=by
 have hl:=World.block_lt_of_cell? w _ h.c0
 have e:∀ o,w'.cell? ⟨1,o,none⟩=w.cell? ⟨1,o,none⟩:=fun o=>hb.cell (p:=⟨1,o,none⟩) hl
 exact ⟨(e 0).trans h.c0,(e 1).trans h.c1,(e 2).trans h.c2,(e 3).trans h.c3⟩
set_option maxHeartbeats 1000000 in
theorem isSize_any (n:Int)(w:World)(hs:Sizes w):
 Calls Tryz.prog 128 #[.int .i64 n] w fun e w'=>e=.returned (.bool (isSz n))∧w=w':=by
 obtain ⟨c0,c1,c2,c3⟩:=hs
 have i0:∀ w,(Instr.index 107 (.agg #[.int .i64 1,.int .i64 2,.int .i64 4,.int .i64 8]) (.int .i64 0)).run Tryz.prog w=.ok (.int .i64 1) w:=fun _=>by kernel_rfl
 have i1:∀ w,(Instr.index 107 (.agg #[.int .i64 1,.int .i64 2,.int .i64 4,.int .i64 8]) (.int .i64 1)).run Tryz.prog w=.ok (.int .i64 2) w:=fun _=>by kernel_rfl
 have i2:∀ w,(Instr.index 107 (.agg #[.int .i64 1,.int .i64 2,.int .i64 4,.int .i64 8]) (.int .i64 2)).run Tryz.prog w=.ok (.int .i64 4) w:=fun _=>by kernel_rfl
 have i3:∀ w,(Instr.index 107 (.agg #[.int .i64 1,.int .i64 2,.int .i64 4,.int .i64 8]) (.int .i64 3)).run Tryz.prog w=.ok (.int .i64 8) w:=fun _=>by kernel_rfl
 go_enter Tryz.func128,Tryz.ntmps128
 go_wp2
 refine wp_loop_rounds 5 ?_
 rw [rounds_succ]
 go_wp2
 all_goals try (rw [rounds_succ];go_wp2)
 all_goals try (rw [rounds_succ];go_wp2)
 all_goals try (rw [rounds_succ];go_wp2)
 all_goals try (rw [rounds_succ];go_wp2)
 all_goals go_ret
 all_goals (refine ⟨ret_bool ?_,rfl⟩;simp only [beq_iff_eq,beq_eq_false_iff_ne,ne_eq] at *;unfold isSz;simp;omega)
def insB (from' size end':Int):Bool:=decide (size≤end'∧from'≤end'-size)
set_option maxHeartbeats 400000 in
theorem inside_any (a b c:Int)(w:World)(hb:0≤b)(hc:c≤18446744073709551615):
 Calls Tryz.prog 129 #[.int .u64 a,.int .u64 b,.int .u64 c] w fun e w'=>e=.returned (.bool (insB a b c))∧w=w':=by
 by_cases h:b≤c
 ·go_enter Tryz.func129,Tryz.ntmps129
  go_wp2
  go_ret
  exact ⟨ret_bool (by unfold insB;simp [h]),rfl⟩
 ·go_enter Tryz.func129,Tryz.ntmps129
  go_wp2
  go_ret
  exact ⟨ret_bool (by unfold insB;simp;omega),rfl⟩
end Go.Proofs.YtdjpjfdeeelijaaGreatDoor.Wd
namespace Go.Proofs.YtdjpjfdeeelijaaGreatDoor.Wd
open Go.RowKit
def chk (len:Int)(at' size:Int):Int:=if isSz size=true then (if insB at' size len=true then 0 else 24) else 1
theorem isSz_cases {n:Int}(h:isSz n=true):n=1∨n=2∨n=4∨n=8:=by simpa [isSz] using h
set_option maxHeartbeats 400000 in
theorem wcheck_any (a:Option Addr)(len cap:Nat)(p n:Int)(w:World)(hs:Sizes w)(hl:len≤9223372036854775807):
 Calls Tryz.prog 123 #[.slice a len cap,.int .u64 p,.int .i64 n] w fun e w'=>e=.returned (.int .i64 (chk len p n))∧w=w':=by
 by_cases h:isSz n=true
 ·have hn:=isSz_cases h
  have h1:1≤n:=by omega
  have h8:n≤8:=by omega
  clear hn
  by_cases hi:insB p n len=true
  ·go_enter Tryz.func123,Tryz.ntmps123
   go_wp2_with (first|(go_at_call 128;refine (isSize_any _ _ hs).mono ?_;rintro e w' ⟨rfl,rfl⟩)|(go_at_call 129;refine (inside_any _ _ _ _ (by omega) (by omega)).mono ?_;rintro e w' ⟨rfl,rfl⟩))
   go_ret
   exact ⟨ret_i64 (by unfold chk;rw [if_pos h,if_pos hi]),rfl⟩
  ·have hi':insB p n len=false:=by simpa using hi
   clear hi
   go_enter Tryz.func123,Tryz.ntmps123
   go_wp2_with (first|(go_at_call 128;refine (isSize_any _ _ hs).mono ?_;rintro e w' ⟨rfl,rfl⟩)|(go_at_call 129;refine (inside_any _ _ _ _ (by omega) (by omega)).mono ?_;rintro e w' ⟨rfl,rfl⟩))
   go_ret
   exact ⟨ret_i64 (by unfold chk;rw [if_pos h,if_neg (by rw [hi'];decide)]),rfl⟩
 ·have h':isSz n=false:=by simpa using h
  clear h
  go_enter Tryz.func123,Tryz.ntmps123
  go_wp2_with (first|(go_at_call 128;refine (isSize_any _ _ hs).mono ?_;rintro e w' ⟨rfl,rfl⟩))
  go_ret
  exact ⟨ret_i64 (by unfold chk;rw [if_neg (by rw [h'];decide)]),rfl⟩
theorem chk_zero {len p n:Int}(h:chk len p n=0):isSz n=true∧n≤len∧p≤len-n:=by
 unfold chk insB at h
 split at h
 ·split at h
  ·rename_i h1 h2;exact ⟨h1,by simpa using h2⟩
  ·omega
 ·omega
set_option maxHeartbeats 400000 in
theorem get_no (a:Option Addr)(len cap:Nat)(p n:Int)(w:World)(hs:Sizes w)(hl:len≤9223372036854775807)(hc:(chk len p n==0)=false):
 Calls Tryz.prog 122 #[.slice a len cap,.int .u64 p,.int .i64 n] w fun e w'=>e=.returned (.tuple #[.int .u64 0,.int .i64 (chk len p n)])∧w=w':=by
 have hc':(chk len p n != 0)=true:=by simpa using hc
 go_enter Tryz.func122,Tryz.ntmps122
 go_wp2_with (go_at_call 123;refine (wcheck_any _ _ _ _ _ _ hs hl).mono ?_;rintro e w' ⟨rfl,rfl⟩)
 go_ret2
 exact ⟨rfl,rfl⟩
set_option maxHeartbeats 1000000 in
theorem get_yes (b off len cap:Nat)(p n:Int)(l:List UInt8)(w:World)(hs:Sizes w)(hl:len≤9223372036854775807)(hb:l.length=len)(hcell:∀ i (h:i<l.length),w.cell? ⟨b,off+i,none⟩=some (.int .u8 (l[i].toNat:Int)))(hp:0≤p)(hc:chk len p n=0):
 Calls Tryz.prog 122 #[.slice (some ⟨b,off,none⟩) len cap,.int .u64 p,.int .i64 n] w fun e w'=>e=.returned (.tuple #[.int .u64 (le ((l.drop p.toNat).take n.toNat):Nat),.int .i64 0])∧w=w':=by
 obtain ⟨hz,hn,hpn⟩:=chk_zero hc
 have hn8:=isSz_cases hz
 have h1:1≤n:=by omega
 have h8:n≤8:=by omega
 obtain ⟨m,rfl⟩:=Int.eq_ofNat_of_zero_le (show 0≤n by omega)
 obtain ⟨q,rfl⟩:=Int.eq_ofNat_of_zero_le hp
 have hc':(chk len q m != 0)=false:=by simpa using hc
 have HC:=hid hc;clear hc hn8
 go_enter Tryz.func122,Tryz.ntmps122
 go_wp2_with (go_at_call 123;refine (wcheck_any _ _ _ _ _ _ hs hl).mono ?_;rintro e w' ⟨rfl,rfl⟩)
 go_loop [9,20] (fun x i=>∃ k:Nat,k≤m∧i=.int .u64 k∧x=.int .u64 (le ((l.drop q).take k):Nat)) (fun _ i=>m-(intOf i).toNat)
 case atStart=>exact ⟨0,Nat.zero_le _,rfl,rfl⟩
 case round=>
  obtain ⟨k,hk,rfl,rfl⟩:=hrel
  by_cases hlt:k<m
  ·have hqk:q+k<l.length:=by omega
   have hx:=hcell (q+k) hqk
   have HT:=hid (le_take l q k hqk)
   have HO:=hid (or_byte (le ((l.drop q).take k)) l[q+k].toNat k (by omega) (le_take_lt l q k (by omega)) (UInt8.toNat_lt _))
   go_wp2
   go_round
   case rel=>exact ⟨k+1,by omega,by go_num,by rw [HO.out,HT.out]⟩
   case measure=>simp [intOf];omega
  ·have:k=m:=by omega
   subst this
   go_wp2
   go_ret2
   exact ⟨rfl,rfl⟩
def wgetV (l:List UInt8)(p n:Int):Int:=if chk l.length p n=0 then (le ((l.drop p.toNat).take n.toNat):Nat) else 0
theorem get_any (a:Option Addr)(len cap:Nat)(p n:Int)(l:List UInt8)(w:World)(hs:Sizes w)(hl:len≤9223372036854775807)(hB:Byt w a len l)(hp:0≤p):
 Calls Tryz.prog 122 #[.slice a len cap,.int .u64 p,.int .i64 n] w fun e w'=>e=.returned (.tuple #[.int .u64 (wgetV l p n),.int .i64 (chk len p n)])∧w=w':=by
 obtain rfl:=hB.hlen
 by_cases hc:chk l.length p n=0
 ·obtain ⟨hz,hn,hpn⟩:=chk_zero hc
  have hn8:=isSz_cases hz
  obtain ⟨b,off,rfl,hcell⟩:=hB.some_of (by omega)
  have e:wgetV l p n=(le ((l.drop p.toNat).take n.toNat):Nat):=by unfold wgetV;rw [if_pos hc]
  rw [e,hc]
  exact get_yes b off _ cap p n l w hs hl rfl hcell hp hc
 ·have e:wgetV l p n=0:=by unfold wgetV;rw [if_neg hc]
  rw [e]
  exact get_no a _ cap p n w hs hl (by simpa using hc)
end Go.Proofs.YtdjpjfdeeelijaaGreatDoor.Wd
namespace Go.Proofs.YtdjpjfdeeelijaaGreatDoor.Wd
open Go.RowKit
theorem infoU8w:(Tryz.prog.info? 5).map (fun i=>(i.zero,i.size,i.bytes))=some (some (.int .u8 0),1,1):=by kernel_rfl
theorem sizeU8w:(Tryz.prog.info? 5).map (·.size)=some 1:=by kernel_rfl
set_option maxHeartbeats 1000000 in
theorem set_yes (a:Option Addr)(len cap:Nat)(p n x:Int)(l:List UInt8)(w:World)(hs:Sizes w)(hl:len≤140737488351232)(hB:Byt w a len l)(hp:0≤p)(hx0:0≤x)(hc:chk len p n=0):
 Calls Tryz.prog 108 #[.slice a len cap,.int .u64 p,.int .i64 n,.int .u64 x] w fun e w'=>e=.returned (.tuple #[.slice (some ⟨w.heap.size,0,none⟩) len len,.int .i64 0])∧Row w' w.heap.size 5 ((putB l p.toNat x.toNat n.toNat).map B8)∧Below w.heap.size w w':=by
 obtain rfl:=hB.hlen
 obtain ⟨hz,hn,hpn⟩:=chk_zero hc
 have hn8:=isSz_cases hz
 have h1:1≤n:=by omega
 have h8:n≤8:=by omega
 obtain ⟨m,rfl⟩:=Int.eq_ofNat_of_zero_le (show 0≤n by omega)
 obtain ⟨q,rfl⟩:=Int.eq_ofNat_of_zero_le hp
 obtain ⟨y,rfl⟩:=Int.eq_ofNat_of_zero_le hx0
 have hc':(chk l.length q m != 0)=false:=by simpa using hc
 have HC:=hid hc;clear hc hn8
 go_enter Tryz.func108,Tryz.ntmps108
 go_wp2_with (first
  | (go_at_call 123;refine (wcheck_any _ _ _ _ _ _ hs (by omega)).mono ?_;rintro e w' ⟨rfl,rfl⟩)
  | (at_make;refine wpList_make_row _ rfl _ _ 89 rfl 5 (.int .u8 0) 1 Tryz.underlying89 infoU8w rfl .i64 .i64 _ _ l.length rfl rfl (by omega) (by omega) (by omega) (by omega) ?_;intro w1 hr1 hb1 hs1)
  | (with_reducible refine wpList_copy_row rfl _ _ 89 89 rfl 5 Tryz.underlying89 sizeU8w l.length _ _ w.heap.size a rfl rfl l (List.replicate l.length (.int .u8 0)) 5 hr1 (by simp) (hB.below' hb1) w.heap.size w hb1 (Nat.le_refl _) ?_;intro w2 hr2 hb2))
 rw [← putB_zero l q y] at hr2
 go_loopw [28] (fun i wr=>∃ k:Nat,k≤m∧i=.int .u64 k∧Row wr w.heap.size 5 ((putB l q y k).map B8)∧Below w.heap.size w wr) (fun i _=>m-(intOf i).toNat)
 case atStart=>exact ⟨0,Nat.zero_le _,rfl,hr2,hb2⟩
 case round=>
  obtain ⟨k,hk,rfl,hr,hb⟩:=hrel
  by_cases hlt:k<m
  ·have hqk:q+k<l.length:=by omega
   have hlen:q+k<((putB l q y k).map B8).length:=by rw [List.length_map,putB_len _ _ _ _ (by omega)];exact hqk
   have hfr:=hr.frozen (q+k)
   have hcx:=hr.cell (q+k) hlen
   have hset:=hid (hr.set (q+k) (B8 (byteAt y k)))
   go_wp2
   go_roundw
   case rel=>
    refine ⟨k+1,by omega,by go_num,?_,hb.setCell (Nat.le_refl _) _⟩
    have h2:=hset.out
    rw [← List.map_set,putB_set l q y k hqk] at h2
    rw [shr_byte]
    exact h2
   case measure=>simp [intOf];omega
  ·have e:k=m:=by omega
   subst e
   go_wp2
   go_ret2
   exact ⟨rfl,hr,hb⟩
theorem putB_all (x:Nat)(n:Nat):putB (List.replicate n 0) 0 x n=leB x n:=by unfold putB;simp
/-- A number in new memory. -/
theorem set_new (g n x:Nat)(w:World)(hs:Sizes w)(hn:n=1∨n=2∨n=4∨n=8)(hB:Byt w (some ⟨g,0,none⟩) n (List.replicate n 0)):
 Calls Tryz.prog 108 #[.slice (some ⟨g,0,none⟩) n n,.int .u64 0,.int .i64 n,.int .u64 x] w fun e w'=>e=.returned (.tuple #[.slice (some ⟨w.heap.size,0,none⟩) n n,.int .i64 0])∧Row w' w.heap.size 5 ((leB x n).map B8)∧Below w.heap.size w w':=by
 have hz:isSz (n:Int)=true:=by unfold isSz;rcases hn with rfl|rfl|rfl|rfl <;> rfl
 have hc:chk (n:Int) 0 (n:Int)=0:=by
  unfold chk
  rw [if_pos hz,show insB 0 (n:Int) (n:Int)=true by unfold insB;simp,if_pos rfl]
 have:=set_yes (some ⟨g,0,none⟩) n n 0 n x (List.replicate n 0) w hs (by omega) hB (by omega) (by omega) hc
 rwa [show (0:Int).toNat=0 from rfl,Int.toNat_natCast,Int.toNat_natCast,putB_all] at this
end Go.Proofs.YtdjpjfdeeelijaaGreatDoor.Wd
