/-
  HeldTree
-/
import Derived.Test.YtlmhgeanknhcfaaGreatDoorB16
import Derived.Test.YtlmhgeanknhcfaaGreatDoorVMarkTreeW
import Derived.Test.YtlmhgeanknhcfaaGreatDoorVXtParseExpr
namespace Go.Proofs.YtlmhgeanknhcfaaGreatDoor.Placed
set_option maxHeartbeats 8000000
set_option maxRecDepth 10000
open Go.RowKit
open Strs Tree
open ParI (Row zbm)
theorem zp9 (a:Option Addr) (c:Nat) (K:Int) (w:World):
  Calls Tryz.prog 38 #[.slice a 0 c,.int .i64 K] w fun e w'=>e=.returned (.int .i64 K)/\Below w.heap.size w w':=by
 go_enter Tryz.func38,Tryz.ntmps38;go_wp2_with fail
 refine wp_loop_rounds 1 ?_;rw[rounds_succ];go_wp2_with fail
 go_ret;exact ⟨rfl,zB _ _⟩
def zyz (ts:List T):Prop:=∀ (base k:Nat) (v:Value) (w:World),Row base w (zac k ts) v->0<k->k+zba ts<=4611686018427387904->Calls Tryz.prog 38 #[v,.int .i64 (k:Int)] w fun e w'=>e=.returned (.int .i64 ((k+zba ts:Nat):Int))/\Below w.heap.size w w'
theorem zux {ts:List T} (ih:∀ t,t∈ts->zyz t.kids):zyz ts:=by
 intro base k v w hrow hk hkn;have hcase:=ParI.zl6 hrow.own;rw[zbr] at hcase;rcases hcase with ⟨hv,hn0⟩|⟨g,c,hv⟩
 ·subst hv
  have hts:ts=[]:=List.eq_nil_of_length_eq_zero hn0;subst hts;exact zp9 none 0 k w
 subst hv
 have hroom:ts.length<=maxLen:=by
  obtain ⟨-,⟨hv,-⟩|⟨g',cap,cur,hv,-,-,h1,h2,-⟩⟩:=hrow.own
  ·cases hv
  ·rw[zbr] at h1
   exact Nat.le_trans h1 h2
 unfold maxLen at hroom;have HROW:=zH hrow;have IH:=zH ih;clear ih hrow;generalize hn:ts.length=n at *;have HN:=zH hn;clear hn;go_enter Tryz.func38,Tryz.ntmps38;go_wp2_with fail
 go_loopw [1,5] (fun q j wr=>∃ D R:List T,ts=D++R/\j=.int .i64 (D.length:Int)/\q=.int .i64 ((k+zba D:Nat):Int)/\Below w.heap.size w wr) (fun _ j _=>n-(intOf j).toNat)
 case atStart=>exact ⟨[],ts,rfl,rfl,rfl,zB _ _⟩
 case round=>
  obtain ⟨D,R,hts,rfl,rfl,hbw⟩:=hrel;have HTS:=zH hts;have HBW:=zH hbw;clear hts hbw;generalize hi:D.length=i at *;have HI:=zH hi;clear hi;generalize hq:k+zba D=q at *;have HQ:=zH hq;clear hq;cases R with
  | nil=>
   have hin:i=n:=by rw[<-HI.out,<-HN.out,HTS.out,List.append_nil]
   have hqq:q=k+zba ts:=by rw[<-HQ.out,HTS.out,List.append_nil]
   have hlt:¬((i:Int)<(n:Int)):=by omega
   have HQQ:=zH hqq;clear hqq;clear hin;go_wp2_with fail
   go_ret;exact ⟨by rw[HQQ.out];rfl,HBW.out⟩
  | cons t B=>
   have hlt:(i:Int)<(n:Int):=by have h1:=HN.out;rw[HTS.out] at h1;simp at h1;have:=HI.out;omega
   have hqb:q+cnt t<=4611686018427387904:=by have h1:=hkn;rw[HTS.out,zaz,zba] at h1;have:=HQ.out;omega
   have hqp:0<q:=by have:=HQ.out;omega
   have hal:(zac k D).length=i:=by rw[zbr,HI.out]
   have HAL:=zH hal;have KIH:=zH (IH.out t (by rw[HTS.out];simp))
   have hrt:zac k ts=zac k D++marked q t::zac (q+cnt t) B:=by rw[HTS.out,zbt,zac,HQ.out]
   have hrow0:=HROW.out;rw[hrt] at hrow0;obtain ⟨va,vc,vb,vd,hf1,hf2⟩:=zbm (zhs hrow0).good;obtain ⟨uk,ut,un,uns,uvn,uvk,uks⟩:=t;rw[marked] at hrow0 hf1 hf2;simp only[T.vn,T.vk,T.names,T.kids,zdd,zbr] at hf1 hf2 KIH;subst hf1 hf2;rw[cnt] at hqb;have hrw:=hrow0.below HBW.out;have HRW:=zH hrow0;obtain ⟨c0,-⟩:=ze9 hrw 0 (by decide);obtain ⟨c1,-⟩:=ze9 hrw 1 (by decide)
   rw[hal] at c0 c1;replace c0:wr.cell? ⟨g,i*5,none⟩=some (.int .i64 (q:Int)):=c0;replace c1:wr.cell? ⟨g,i*5+1,none⟩=some (.string (Mark.mark ((q+1:Nat):Int))):=c1;rw[show ((q+1:Nat):Int)=(q:Int)+1 by omega] at c1
   have hpos:(0:Int)<(q:Int)+1:=by omega
   have hbw:=HBW.out;clear hal hrt hrow0 hrw HROW;generalize hmk:Mark.mark ((q:Int)+1)=mk at *;have HMK:=zH hmk;clear hmk;go_wp2_with fail
   go_region_held3 (fun w'=>w'.cell? ⟨g,i*5+1,none⟩=some (.string mk)/\Below w.heap.size w w')
    (first|exact ⟨c1,hbw.drew⟩|exact ⟨cell_keep hb1 (show wr.drew.cell? _=_ from c1),hbw.drew.trans (hb1.mono hbw.size)⟩|go_keep)
    (first|(go_at_call 83;refine (Mark.zcv ((q:Int)+1) _ hpos (by omega)).mono ?_;rintro e w1 ⟨rfl,hb1⟩;rw[HMK.out]))
   all_goals
    have hb6:=hbw.drew.trans (hb1.mono hbw.size);have HB6:=zH hb6;have hrw:=HRW.out.below hb6;have hgd:=zfy.1 (zhs hrw).good;obtain ⟨c2,-⟩:=ze9 hrw 2 (by decide);obtain ⟨c3,-⟩:=ze9 hrw 3 (by decide);rw[HAL.out] at c2 c3;replace c2:w1.cell? ⟨g,i*5+2,none⟩=some (.int .i64 ((q+2:Nat):Int)):=c2;replace c3:w1.cell? ⟨g,i*5+3,none⟩=some (.slice va uns.length vc):=c3;rw[show ((q+2:Nat):Int)=(q:Int)+1+1 by omega] at c2
    have KN:Hid (Calls Tryz.prog 37 #[.slice va uns.length vc,.int .i64 ((q:Int)+1+1+1)] w1 fun e w'=>e=.returned (.int .i64 ((q+3+uns.length:Nat):Int))/\Below w1.heap.size w1 w'):=zH (by
     have h0:=hgd.names;simp only[T.names,T.vn,zdd] at h0;have h:=zj3 (k:=q+3) h0 (by omega) (by omega);rw[show ((q+3:Nat):Int)=(q:Int)+1+1+1 by omega] at h
     exact h)
    clear hb1 hb6 hrw hgd c0 c1 hbw HBW;go_wp2_with fail
    refine KN.out.mono ?_;rintro e w4 ⟨rfl,hb4⟩;have hb7:=HB6.out.trans (hb4.mono HB6.out.size);have hrw:=HRW.out.below hb7;have HB7:=zH hb7;obtain ⟨c4,-⟩:=ze9 hrw 4 (by decide);rw[HAL.out] at c4;replace c4:w4.cell? ⟨g,i*5+4,none⟩=some (.slice vb uks.length vd):=c4;obtain ⟨hk1,hk2,hk3⟩:=(zhs hrw).kids;have hmm:0<q+3+uns.length:=by omega
    generalize hm:q+3+uns.length=m at *;have HM:=zH hm;clear hm;have KK:=zH (KIH.out base m (.slice vb uks.length vd) w4 ⟨hk1,hk2,hk3⟩ (by omega) (by have:=HM.out;omega));have hm0:¬((m:Int)<0):=by omega
    clear hb4 hb7 hrw hk1 hk2 hk3 KN HB6 c2 c3;go_wp2_with fail
    refine KK.out.mono ?_;rintro e w5 ⟨rfl,hb5⟩;have HB5:=zH (HB7.out.trans (hb5.mono HB7.out.size))
    have HE:Hid (m+zba uks=k+zba (D++[T.mk uk ut un uns (.slice va uns.length vc) (.slice vb uks.length vd) uks])):=zH (by rw[zaz,zba,zba,cnt];have:=HQ.out;have:=HM.out;omega)
    generalize hz:m+zba uks=z at *;have HZ:=zH hz;clear hz;have hz0:¬((z:Int)<0):=by omega
    clear hb5 KK HB7 c4;go_wp2_with fail
    go_roundw
    case rel=>
     refine ⟨D++[T.mk uk ut un uns (.slice va uns.length vc) (.slice vb uks.length vd) uks],B,by rw[HTS.out];simp,?_,by rw[<-HE.out],HB5.out⟩
     rw[List.length_append,HI.out];rfl
    case measure=>simp[intOf];omega
theorem z9p:∀ t:T,zyz t.kids:=ind fun _ _ _ _ _ _ _ ih=>zux ih
theorem zvh (ts:List T):zyz ts:=zux fun t _=>z9p t
end Go.Proofs.YtlmhgeanknhcfaaGreatDoor.Placed
