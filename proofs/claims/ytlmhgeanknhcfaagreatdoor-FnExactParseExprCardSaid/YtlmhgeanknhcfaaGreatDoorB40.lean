/-
  ImplRight ImplBlock ImplValue ImplIsExpr
-/
import Derived.Test.YtlmhgeanknhcfaaGreatDoorB37
import Derived.Test.YtlmhgeanknhcfaaGreatDoorB39
set_option maxHeartbeats 4000000
set_option maxRecDepth 10000
namespace Go.Proofs.YtlmhgeanknhcfaaGreatDoor
namespace ImplRight
open Go.RowKit
open Strs Tree zgy ImplLike ImplPlain Rights ImplVals
open ImplTok (Part)
theorem yb8 {w:World} {a:Addr} {m:E} (ih:∀ e,e∈m.kids->OkV e) (hw:weight m<=1048576) (h:Nd w a m):
  Calls Tryz.prog 167 #[.pointer (some a),.int .i64 0] w (Part (msg m) w):=by
 obtain ⟨k,t,n,ns,ks⟩:=m;rw[ydp Tok.zhx];exact zzd 0 (.inl rfl) ih hw h
theorem zk1 {w:World} {a:Addr} {k:Int} {t:ByteArray} {n:Int} {ns:List ByteArray} {ks:List E} (D:Bool) (hD:(decide (3<=ks.length)&&znt ks&&zyn (ks.drop 1))=D) (ih:∀ m,m∈ks->OkV m) (ih2:∀ m,m∈ks->∀ g,g∈m.kids->OkV g) (hw:weight (.mk k t n ns ks)<=1048576) (h:Nd w a (.mk k t n ns ks)):
  Calls Tryz.prog 168 #[.pointer (some a)] w (Part D w):=by
 obtain ⟨b,o,vn,x,cap,rfl,-,-,-,-,c4,hm,-,hk⟩:=zvi h;clear h;simp only[E.kids] at *;rw[weight] at hw;unfold maxLen at hm;rw[zyi] at hD;have HD:=zH hD;clear hD;by_cases h3:3<=ks.length
 case neg=>
  have hD:D=false:=by rw[<-HD.out,decide_eq_false h3];simp
  subst hD;have hl:(ks.length:Int)<3:=by omega
  clear HD h3 hk ih ih2 hw;generalize ks.length=N at *;go_enter Tryz.func168,Tryz.ntmps168;go_wp2_with fail
  go_ret;exact ⟨rfl,zB _ _⟩
 obtain ⟨M,hM⟩:∃ M,ks.length=M+1:=⟨ks.length-1,by omega⟩
 obtain ⟨C,rfl⟩:∃ C,cap=C+1:=⟨cap-1,by omega⟩
 have h0:0<ks.length:=by omega
 obtain ⟨kb,ko,rfl,hn0⟩:=hk 0 h0;rw[show ko+0*5=ko by omega] at hn0
 have hw0:weight ks[0]<=1048576:=by have:=zd5 ks 0 h0;omega
 have KH:=zH (ih _ (List.getElem_mem h0) w _ hw0 hn0)
 have hhead:znt ks=right ks[0] false:=by
  cases ks with
  | nil=>simp at h0
  | cons e es=>rfl
 rw[hhead,decide_eq_true h3,Bool.true_and] at HD
 have HK:Hid (∀ i,i<M->∃ m,ks[i+1]?=some m/\Nd w ⟨kb,ko+5+i*5,none⟩ m/\weight m<=1048576/\∀ g,g∈m.kids->OkV g):=by
  intro i hi;have hil:i+1<ks.length:=by omega
  obtain ⟨kb',ko',e1,hn⟩:=hk (i+1) hil;cases e1;rw[show ko+(i+1)*5=ko+5+i*5 by omega] at hn
  exact ⟨ks[i+1],List.getElem?_eq_getElem hil,hn,by have:=zd5 ks (i+1) hil;omega,ih2 _ (List.getElem_mem hil)⟩
 have HAL:Hid ((ks.drop 1).all msg=true↔∀ i m,i<M->ks[i+1]?=some m->msg m=true):=by
  show _↔_
  rw[List.all_eq_true];constructor
  ·intro h i m hi hm'
   refine h m (List.mem_iff_getElem?.2 ⟨i,?_⟩);rw[List.getElem?_drop,Nat.add_comm];exact hm'
  ·intro h m hmem
   obtain ⟨i,hi⟩:=List.mem_iff_getElem?.1 hmem;rw[List.getElem?_drop,Nat.add_comm] at hi
   have hil:i+1<ks.length:=by
    rcases Nat.lt_or_ge (i+1) ks.length with h|h
    ·exact h
    ·rw[List.getElem?_eq_none h] at hi;cases hi
   exact h i m (by omega) hi
 rw[hM] at c4 hm h3;have hl:¬((M+1:Nat):Int)<3:=by omega
 have hl2:¬((M:Int)+1)<3:=by omega
 clear hk ih ih2 hn0 hw0 hhead hw hM;generalize right ks[0] false=H at *;clear h0;cases H with
 | false=>
  have hD:D=false:=by rw[<-HD.out];simp
  subst hD;clear HD HK HAL;go_enter Tryz.func168,Tryz.ntmps168;go_wp2_with fail
  refine KH.out.mono ?_;rintro r w1 ⟨rfl,hb1⟩;have B1:=zH hb1;clear hb1;go_wp2_with fail
  go_ret;exact ⟨rfl,B1.out⟩
 | true=>
  rw[Bool.true_and] at HD;go_enter Tryz.func168,Tryz.ntmps168;go_wp2_with fail
  refine KH.out.mono ?_;rintro r w1 ⟨rfl,hb1⟩;have B1:=zH hb1;have c4':=cell_keep hb1 c4;clear hb1;go_wp2_with fail
  clear c4'
  go_loopw [27] (fun j wr=>∃ i:Nat,i<=M/\j=.int .i64 i/\Below w.heap.size w wr/\Hid (∀ j m,j<i->ks[j+1]?=some m->msg m=true)) (fun j _=>M-(intOf j).toNat)
  case atStart=>exact ⟨0,by omega,rfl,B1.out,fun j m h=>by omega⟩
  case round=>
   obtain ⟨i,hi,rfl,hbw,HI⟩:=hrel;by_cases hlt:i<M
   ·obtain ⟨m,hm1,hnd,hwm,hg⟩:=HK.out i hlt
    have KS:=zH (yb8 hg hwm (hnd.keep hbw));have HB:=zH hbw;have HM1:=zH hm1;clear hm1 hnd hwm hg hbw;cases hv:msg m with
    | true=>
     rw[hv] at KS;have HV:=zH hv;clear hv;go_wp2_with fail
     refine KS.out.mono ?_;rintro r w2 ⟨rfl,hb2⟩;have HB2:=zH (HB.out.trans (hb2.mono HB.out.size));clear hb2;go_wp2_with fail
     go_roundw
     case rel=>
      refine ⟨i+1,by omega,by go_num,HB2.out,fun j m' hj hm'=>?_⟩
      by_cases e:j=i
      ·subst e;rw[HM1.out] at hm';cases hm';exact HV.out
      ·exact HI.out j m' (by omega) hm'
     case measure=>simp[intOf];omega
    | false=>
     rw[hv] at KS
     have hD:D=false:=by rw[<-HD.out,Bool.eq_false_iff];intro h;have:=HAL.out.1 h i m hlt HM1.out;rw[hv] at this;cases this
     subst hD;clear hv;go_wp2_with fail
     refine KS.out.mono ?_;rintro r w2 ⟨rfl,hb2⟩;have HB2:=zH (HB.out.trans (hb2.mono HB.out.size));clear hb2;go_wp2_with fail
     go_ret;exact ⟨rfl,HB2.out⟩
   ·have hD:D=true:=by
     rw[<-HD.out];exact HAL.out.2 (fun j m' hj hm'=>HI.out j m' (by omega) hm')
    subst hD;go_wp2_with fail
    go_ret;exact ⟨rfl,hbw⟩
end ImplRight
namespace ImplRight
open Go.RowKit
open Strs Tree zgy ImplLike ImplPlain Rights ImplVals
open ImplTok (Part)
theorem ze8 {w:World} {a:Addr} {k:Int} {t:ByteArray} {n:Int} {ns:List ByteArray} {ks:List E} (D:Bool) (hD:(decide (0<=n)&&decide (n<=(ns.length:Int))&&ns.all Tok.za3&&zc7 true ks)=D) (ih:∀ m,m∈ks->OkV m/\OkS m) (hw:weight (.mk k t n ns ks)<=1048576) (h:Nd w a (.mk k t n ns ks)):
  Calls Tryz.prog 169 #[.pointer (some a)] w (Part D w):=by
 obtain ⟨b,o,vn,x,cap,rfl,-,-,c2,c3,c4,hm,hx,hk⟩:=zvi h;clear h;simp only[E.num,E.names,E.kids] at *;rw[weight] at hw;have KN:=fun d os=>zH (Calls.regrown_of (w:=w) (d:=d) (os:=os) (zfk (hx.below (below_regrown w d os))))
 obtain ⟨x3,p3,rfl,hm3,-⟩:=hx;unfold maxLen at hm hm3;have HD:=zH hD;have k2:=cell_regrown c2;have k3:=cell_regrown c3;have HK:=zH hk;have IH:=zH ih;have HW:Hid (weights ks<=1048576):=by show _<=_;omega
 clear hD hk ih hw c2 c3;generalize ns.all Tok.za3=Q at *;generalize ns.length=L at *;by_cases h0:0<=n
 case neg=>
  have hD:D=false:=by rw[<-HD.out,decide_eq_false h0];rfl
  subst hD;have b0:decide (n<0)=true:=decide_eq_true (by omega);clear HD h0 HK;generalize ks.length=N at *;go_enter Tryz.func169,Tryz.ntmps169;go_wp2_with fail
  refine wp_region_quiet_below (by kernel_rfl) (by kernel_rfl) ?_
  repeat (go_big_quiet_step (fail))
  refine wpQuiet_nil ?_;intro w2 hw2;have hb2:=zH (zaq hw2);clear hw2;go_wp2_with fail
  go_ret;exact ⟨rfl,hb2.out⟩
 have b0:decide (n<0)=false:=decide_eq_false (by omega);by_cases hl:n<=(L:Int)
 case neg=>
  have hD:D=false:=by rw[<-HD.out,decide_eq_false hl];simp
  subst hD;have b1:decide ((L:Int)<n)=true:=decide_eq_true (by omega);clear HD h0 hl HK;generalize ks.length=N at *;go_enter Tryz.func169,Tryz.ntmps169;go_wp2_with fail
  refine wp_region_quiet_below (by kernel_rfl) (by kernel_rfl) ?_
  repeat (go_big_quiet_step (fail))
  refine wpQuiet_nil ?_;intro w2 hw2;have hb2:=zH (zaq hw2);clear hw2;go_wp2_with fail
  go_ret;exact ⟨rfl,hb2.out⟩
 have b1:decide ((L:Int)<n)=false:=decide_eq_false (by omega);rw[decide_eq_true h0,decide_eq_true hl] at HD;clear h0 hl;cases Q with
 | false=>
  have hD:D=false:=by rw[<-HD.out];simp
  subst hD;clear HD HK;generalize ks.length=N at *;go_enter Tryz.func169,Tryz.ntmps169;go_wp2_with fail
  refine wp_region_quiet_below (by kernel_rfl) (by kernel_rfl) ?_
  repeat (go_big_quiet_step ((go_at_call 139;exact (KN _ _).out)))
  refine wpQuiet_nil ?_;intro w2 hw2;have hb2:=zH (zaq hw2);clear hw2;go_wp2_with fail
  go_ret;exact ⟨rfl,hb2.out⟩
 | true=>
  simp only[Bool.true_and] at HD;by_cases hN:ks.length=0
  case pos=>
   have hD:D=true:=by rw[<-HD.out,z4s hN];rfl
   subst hD;rw[hN] at c4 hm;clear HD HK hN;go_enter Tryz.func169,Tryz.ntmps169;go_wp2_with fail
   refine wp_region_quiet_below (by kernel_rfl) (by kernel_rfl) ?_
   repeat (go_big_quiet_step ((go_at_call 139;exact (KN _ _).out)))
   refine wpQuiet_nil ?_;intro w2 hw2;have hb2:=zH (zaq hw2);have c4':=cell_keep hb2.out c4;clear hw2 k2 k3 c4 KN;go_wp2_with fail
   go_ret;exact ⟨rfl,hb2.out⟩
  obtain ⟨M,hM⟩:∃ M,ks.length=M+1:=⟨ks.length-1,by omega⟩
  have hlast:M<ks.length:=by omega
  obtain ⟨kb,ko,rfl,hnl⟩:=HK.out M hlast
  have hks:ks=ks.take M++[ks[M]]:=by have:=List.take_succ_eq_append_getElem hlast;rw[List.take_of_length_le (by omega)] at this;exact this
  have hr:=zv9 (ks.take M) ks[M];rw[<-hks] at hr;rw[hr] at HD;have htl:(ks.take M).length=M:=by rw[List.length_take];omega
  have hkt:zqg w (some ⟨kb,ko,none⟩) (ks.take M):=fun i hi=>by
   have hi':i<ks.length:=by omega
   obtain ⟨kb',ko',e1,hn⟩:=HK.out i hi';exact ⟨kb',ko',e1,by rw[List.getElem_take];exact hn⟩
  have hwm:weight ks[M]<=1048576:=by have:=zd5 ks M hlast;have:=HW.out;omega
  have KS:=fun w' (hb:Below w.heap.size w w')=>zH ((IH.out _ (List.getElem_mem hlast)).2 w' _ hwm (hnl.keep hb))
  have hwt:weights (ks.take M)<=1048576:=by have:=zq9 ks M;have:=HW.out;omega
  have KV0:=fun w' (hb:Below w.heap.size w w')=>zn9 (cap:=cap) (fun e he=>(IH.out e (List.mem_of_mem_take he)).1) hwt (hkt.keep hb) (by rw[htl];unfold maxLen;omega)
  rw[htl] at KV0;have KV:=fun w' hb=>zH (KV0 w' hb)
  rw[hM] at c4 hm;have HM:=zH hM;clear hr hks htl hkt hwm hwt KV0 hnl HK hN hM;generalize zc7 false (ks.take M)=R at *;generalize right ks[M] true=S at *;clear hlast;have g0:¬((M:Int)<0):=by omega
  cases R with
  | false=>
   have hD:D=false:=by rw[<-HD.out];rfl
   subst hD;clear HD;go_enter Tryz.func169,Tryz.ntmps169;go_wp2_with fail
   refine wp_region_quiet_below (by kernel_rfl) (by kernel_rfl) ?_
   repeat (go_big_quiet_step ((go_at_call 139;exact (KN _ _).out)))
   refine wpQuiet_nil ?_;intro w2 hw2;have hb2:=zH (zaq hw2);have c4':=cell_keep hb2.out c4;clear hw2 k2 k3 c4 KN;go_wp2_with fail
   refine (KV _ hb2.out).out.mono ?_;rintro r w3 ⟨rfl,hb3⟩;have B3:=zH (hb2.out.trans (hb3.mono hb2.out.size));clear hb3;go_wp2_with fail
   go_ret;exact ⟨rfl,B3.out⟩
  | true=>
   have hD:D=S:=by rw[<-HD.out];rfl
   subst hD;clear HD;go_enter Tryz.func169,Tryz.ntmps169;go_wp2_with fail
   refine wp_region_quiet_below (by kernel_rfl) (by kernel_rfl) ?_
   repeat (go_big_quiet_step ((go_at_call 139;exact (KN _ _).out)))
   refine wpQuiet_nil ?_;intro w2 hw2;have hb2:=zH (zaq hw2);have c4':=cell_keep hb2.out c4;clear hw2 k2 k3 c4 KN;go_wp2_with fail
   refine (KV _ hb2.out).out.mono ?_;rintro r w3 ⟨rfl,hb3⟩;have B3:=zH (hb2.out.trans (hb3.mono hb2.out.size));have c5:=cell_keep hb3 c4';clear hb3 c4';go_wp2_with fail
   refine (KS _ B3.out).out.mono ?_;rintro r w4 ⟨rfl,hb4⟩;have B4:=zH (B3.out.trans (hb4.mono B3.out.size));clear hb4;go_wp2_with fail
   go_ret;exact ⟨rfl,B4.out⟩
end ImplRight
namespace ImplRight
open Go.RowKit
open Strs Tree zgy ImplLike ImplPlain Rights ImplVals
open ImplTok (Part)
theorem zdf {w:World} {a:Addr} {k:Int} {t:ByteArray} {n:Int} {ns:List ByteArray} {ks:List E} (h:Nd w a (.mk k t n ns ks)):
  Calls Tryz.prog 128 #[.pointer (some a)] w (Part (plain k t n ns) w):=(zvc h).mono fun _ _ ⟨h1,h2⟩=>⟨h1,h2.below⟩
theorem yeb {w:World} {a:Addr} {t:ByteArray} {n:Int} {ns:List ByteArray} {ks:List E} (hw:weight (.mk 1 t n ns ks)<=1048576) (h:Nd w a (.mk 1 t n ns ks)):
  Calls Tryz.prog 130 #[.pointer (some a)] w (Part (right (.mk 1 t n ns ks) false) w):=by
 have KP:=zH (zdf h);generalize hD:right (.mk 1 t n ns ks) false=D;have HD:=zH hD;clear hD;have HND:=zH h;obtain ⟨b,o,vn,x,cap,rfl,c0,c1,c2,c3,c4,hm,hx,hk⟩:=zvi h;clear h;simp only[E.kind,E.text,E.num,E.names,E.kids] at *;have HWW:=zH hw;rw[weight] at hw;have ht:t.size<=1048576:=by omega
 unfold maxLen at hm;have KP2:Hid (∀ P,plain 1 t n ns=P->Calls Tryz.prog 128 #[.pointer (some ⟨b,o,none⟩)] w (Part P w)):=fun P hP=>hP▸KP.out
 clear KP;cases hP:plain 1 t n ns with
 | false=>
  have hD:D=false:=by rw[<-HD.out];exact zet hP
  subst hD;have KP:=zH (KP2.out _ hP);clear HD hP KP2 HWW HND hw hx hk;generalize ks.length=N at *;go_enter Tryz.func130,Tryz.ntmps130;go_wp2_with fail
  refine KP.out.mono ?_;rintro r w1 ⟨rfl,hb1⟩;have B1:=zH hb1;clear hb1;go_wp2_with fail
  go_ret;exact ⟨rfl,B1.out⟩
 | true=>
  have KP:=zH (KP2.out _ hP);have HPL:=zH hP;clear hP KP2;have hv:=ybk (ks:=ks) HPL.out;rw[HD.out] at hv;have HV:=zH hv;clear hv HD HPL HND HWW hw hx hk;generalize ks.length=N at *;by_cases h0:0<=n
  ·by_cases h9:n<=999999999
   ·by_cases hN:N=0
    ·have hb:((N:Int)==0)=true:=by rw[beq_iff_eq];omega
     have hD:D=true:=by rw[HV.out,decide_eq_true h0,decide_eq_true h9,decide_eq_true hN];rfl
     have HN:=zH hN;clear hN;subst hD;clear HV;go_enter Tryz.func130,Tryz.ntmps130;go_wp2_with fail
     refine KP.out.mono ?_;rintro r w1 ⟨rfl,hb1⟩;have B1:=zH hb1;have d0:=cell_keep hb1 c0;have d1:=cell_keep hb1 c1;have d2:=cell_keep hb1 c2;have d4:=cell_keep hb1 c4;clear hb1 c0 c1 c2 c3 c4;go_wp2_with fail
     go_ret;exact ⟨rfl,B1.out⟩
    ·have hb:((N:Int)==0)=false:=by rw[beq_eq_false_iff_ne];omega
     have hD:D=false:=by rw[HV.out,decide_eq_false hN];simp
     subst hD;clear HV hN;go_enter Tryz.func130,Tryz.ntmps130;go_wp2_with fail
     refine KP.out.mono ?_;rintro r w1 ⟨rfl,hb1⟩;have B1:=zH hb1;have d0:=cell_keep hb1 c0;have d1:=cell_keep hb1 c1;have d2:=cell_keep hb1 c2;have d4:=cell_keep hb1 c4;clear hb1 c0 c1 c2 c3 c4;go_wp2_with fail
     go_ret;exact ⟨rfl,B1.out⟩
   ·have hD:D=false:=by rw[HV.out,decide_eq_false h9];simp
    subst hD;clear HV;go_enter Tryz.func130,Tryz.ntmps130;go_wp2_with fail
    refine KP.out.mono ?_;rintro r w1 ⟨rfl,hb1⟩;have B1:=zH hb1;have d0:=cell_keep hb1 c0;have d1:=cell_keep hb1 c1;have d2:=cell_keep hb1 c2;have d4:=cell_keep hb1 c4;clear hb1 c0 c1 c2 c3 c4;go_wp2_with fail
    go_ret;exact ⟨rfl,B1.out⟩
  ·have hD:D=false:=by rw[HV.out,decide_eq_false h0];simp
   subst hD;clear HV;go_enter Tryz.func130,Tryz.ntmps130;go_wp2_with fail
   refine KP.out.mono ?_;rintro r w1 ⟨rfl,hb1⟩;have B1:=zH hb1;have d0:=cell_keep hb1 c0;have d1:=cell_keep hb1 c1;have d2:=cell_keep hb1 c2;have d4:=cell_keep hb1 c4;clear hb1 c0 c1 c2 c3 c4;go_wp2_with fail
   go_ret;exact ⟨rfl,B1.out⟩
theorem ye6 {w:World} {a:Addr} {t:ByteArray} {n:Int} {ns:List ByteArray} {ks:List E} (hw:weight (.mk 2 t n ns ks)<=1048576) (h:Nd w a (.mk 2 t n ns ks)):
  Calls Tryz.prog 130 #[.pointer (some a)] w (Part (right (.mk 2 t n ns ks) false) w):=by
 have KP:=zH (zdf h);generalize hD:right (.mk 2 t n ns ks) false=D;have HD:=zH hD;clear hD;have HND:=zH h;obtain ⟨b,o,vn,x,cap,rfl,c0,c1,c2,c3,c4,hm,hx,hk⟩:=zvi h;clear h;simp only[E.kind,E.text,E.num,E.names,E.kids] at *;have HWW:=zH hw;rw[weight] at hw;have ht:t.size<=1048576:=by omega
 unfold maxLen at hm;have KP2:Hid (∀ P,plain 2 t n ns=P->Calls Tryz.prog 128 #[.pointer (some ⟨b,o,none⟩)] w (Part P w)):=fun P hP=>hP▸KP.out
 clear KP;cases hP:plain 2 t n ns with
 | false=>
  have hD:D=false:=by rw[<-HD.out];exact zet hP
  subst hD;have KP:=zH (KP2.out _ hP);clear HD hP KP2 HWW HND hw hx hk;generalize ks.length=N at *;go_enter Tryz.func130,Tryz.ntmps130;go_wp2_with fail
  refine KP.out.mono ?_;rintro r w1 ⟨rfl,hb1⟩;have B1:=zH hb1;clear hb1;go_wp2_with fail
  go_ret;exact ⟨rfl,B1.out⟩
 | true=>
  have KP:=zH (KP2.out _ hP);have HPL:=zH hP;clear hP KP2;have hv:=ya3 (ks:=ks) HPL.out;rw[HD.out] at hv;have HV:=zH hv;have KC:=fun w=>zH (ImplQuot.ztr t w)
  clear hv HD HPL HND HWW hw hx hk;generalize isText t=Q at *;generalize ks.length=N at *;cases Q with
  | false=>
   have hD:D=false:=by rw[HV.out];rfl
   subst hD;clear HV;go_enter Tryz.func130,Tryz.ntmps130;go_wp2_with fail
   refine KP.out.mono ?_;rintro r w1 ⟨rfl,hb1⟩;have B1:=zH hb1;have d0:=cell_keep hb1 c0;have d1:=cell_keep hb1 c1;have d2:=cell_keep hb1 c2;have d4:=cell_keep hb1 c4;clear hb1 c0 c1 c2 c3 c4;go_wp2_with fail
   refine (KC _).out.mono ?_;rintro r w2 ⟨rfl,hb2⟩;have B2:=zH (B1.out.trans (hb2.mono B1.out.size));clear hb2 d0 d1 d2 d4;go_wp2_with fail
   go_ret;exact ⟨rfl,B2.out⟩
  | true=>
   by_cases hN:N=0
   ·have hb:((N:Int)==0)=true:=by rw[beq_iff_eq];omega
    have hD:D=true:=by rw[HV.out,decide_eq_true hN];rfl
    have HN:=zH hN;clear hN;subst hD;clear HV;go_enter Tryz.func130,Tryz.ntmps130;go_wp2_with fail
    refine KP.out.mono ?_;rintro r w1 ⟨rfl,hb1⟩;have B1:=zH hb1;have d0:=cell_keep hb1 c0;have d1:=cell_keep hb1 c1;have d2:=cell_keep hb1 c2;have d4:=cell_keep hb1 c4;clear hb1 c0 c1 c2 c3 c4;go_wp2_with fail
    refine (KC _).out.mono ?_;rintro r w2 ⟨rfl,hb2⟩;have B2:=zH (B1.out.trans (hb2.mono B1.out.size));have e4:=cell_keep hb2 d4;clear hb2 d0 d1 d2 d4;go_wp2_with fail
    go_ret;exact ⟨rfl,B2.out⟩
   ·have hb:((N:Int)==0)=false:=by rw[beq_eq_false_iff_ne];omega
    have hD:D=false:=by rw[HV.out,decide_eq_false hN];rfl
    subst hD;clear HV hN;go_enter Tryz.func130,Tryz.ntmps130;go_wp2_with fail
    refine KP.out.mono ?_;rintro r w1 ⟨rfl,hb1⟩;have B1:=zH hb1;have d0:=cell_keep hb1 c0;have d1:=cell_keep hb1 c1;have d2:=cell_keep hb1 c2;have d4:=cell_keep hb1 c4;clear hb1 c0 c1 c2 c3 c4;go_wp2_with fail
    refine (KC _).out.mono ?_;rintro r w2 ⟨rfl,hb2⟩;have B2:=zH (B1.out.trans (hb2.mono B1.out.size));have e4:=cell_keep hb2 d4;clear hb2 d0 d1 d2 d4;go_wp2_with fail
    go_ret;exact ⟨rfl,B2.out⟩
theorem yey {w:World} {a:Addr} {t:ByteArray} {n:Int} {ns:List ByteArray} {ks:List E} (hw:weight (.mk 3 t n ns ks)<=1048576) (h:Nd w a (.mk 3 t n ns ks)):
  Calls Tryz.prog 130 #[.pointer (some a)] w (Part (right (.mk 3 t n ns ks) false) w):=by
 have KP:=zH (zdf h);generalize hD:right (.mk 3 t n ns ks) false=D;have HD:=zH hD;clear hD;have HND:=zH h;obtain ⟨b,o,vn,x,cap,rfl,c0,c1,c2,c3,c4,hm,hx,hk⟩:=zvi h;clear h;simp only[E.kind,E.text,E.num,E.names,E.kids] at *;have HWW:=zH hw;rw[weight] at hw;have ht:t.size<=1048576:=by omega
 unfold maxLen at hm;have KP2:Hid (∀ P,plain 3 t n ns=P->Calls Tryz.prog 128 #[.pointer (some ⟨b,o,none⟩)] w (Part P w)):=fun P hP=>hP▸KP.out
 clear KP;cases hP:plain 3 t n ns with
 | false=>
  have hD:D=false:=by rw[<-HD.out];exact zet hP
  subst hD;have KP:=zH (KP2.out _ hP);clear HD hP KP2 HWW HND hw hx hk;generalize ks.length=N at *;go_enter Tryz.func130,Tryz.ntmps130;go_wp2_with fail
  refine KP.out.mono ?_;rintro r w1 ⟨rfl,hb1⟩;have B1:=zH hb1;clear hb1;go_wp2_with fail
  go_ret;exact ⟨rfl,B1.out⟩
 | true=>
  have KP:=zH (KP2.out _ hP);have HPL:=zH hP;clear hP KP2;have hv:=ycr (ks:=ks) HPL.out;rw[HD.out] at hv;have HV:=zH hv;have KC:=fun w=>zH (ImplCount.zi8 t w ht)
  clear hv HD HPL HND HWW hw hx hk;generalize Tok.sel t=Q at *;generalize ks.length=N at *;cases Q with
  | false=>
   have hD:D=false:=by rw[HV.out];rfl
   subst hD;clear HV;go_enter Tryz.func130,Tryz.ntmps130;go_wp2_with fail
   refine KP.out.mono ?_;rintro r w1 ⟨rfl,hb1⟩;have B1:=zH hb1;have d0:=cell_keep hb1 c0;have d1:=cell_keep hb1 c1;have d2:=cell_keep hb1 c2;have d4:=cell_keep hb1 c4;clear hb1 c0 c1 c2 c3 c4;go_wp2_with fail
   refine (KC _).out.mono ?_;rintro r w2 ⟨rfl,hb2⟩;have B2:=zH (B1.out.trans (hb2.mono B1.out.size));clear hb2 d0 d1 d2 d4;go_wp2_with fail
   go_ret;exact ⟨rfl,B2.out⟩
  | true=>
   by_cases hN:N=0
   ·have hb:((N:Int)==0)=true:=by rw[beq_iff_eq];omega
    have hD:D=true:=by rw[HV.out,decide_eq_true hN];rfl
    have HN:=zH hN;clear hN;subst hD;clear HV;go_enter Tryz.func130,Tryz.ntmps130;go_wp2_with fail
    refine KP.out.mono ?_;rintro r w1 ⟨rfl,hb1⟩;have B1:=zH hb1;have d0:=cell_keep hb1 c0;have d1:=cell_keep hb1 c1;have d2:=cell_keep hb1 c2;have d4:=cell_keep hb1 c4;clear hb1 c0 c1 c2 c3 c4;go_wp2_with fail
    refine (KC _).out.mono ?_;rintro r w2 ⟨rfl,hb2⟩;have B2:=zH (B1.out.trans (hb2.mono B1.out.size));have e4:=cell_keep hb2 d4;clear hb2 d0 d1 d2 d4;go_wp2_with fail
    go_ret;exact ⟨rfl,B2.out⟩
   ·have hb:((N:Int)==0)=false:=by rw[beq_eq_false_iff_ne];omega
    have hD:D=false:=by rw[HV.out,decide_eq_false hN];rfl
    subst hD;clear HV hN;go_enter Tryz.func130,Tryz.ntmps130;go_wp2_with fail
    refine KP.out.mono ?_;rintro r w1 ⟨rfl,hb1⟩;have B1:=zH hb1;have d0:=cell_keep hb1 c0;have d1:=cell_keep hb1 c1;have d2:=cell_keep hb1 c2;have d4:=cell_keep hb1 c4;clear hb1 c0 c1 c2 c3 c4;go_wp2_with fail
    refine (KC _).out.mono ?_;rintro r w2 ⟨rfl,hb2⟩;have B2:=zH (B1.out.trans (hb2.mono B1.out.size));have e4:=cell_keep hb2 d4;clear hb2 d0 d1 d2 d4;go_wp2_with fail
    go_ret;exact ⟨rfl,B2.out⟩
theorem yek {w:World} {a:Addr} {t:ByteArray} {n:Int} {ns:List ByteArray} {ks:List E} (hw:weight (.mk 4 t n ns ks)<=1048576) (h:Nd w a (.mk 4 t n ns ks)):
  Calls Tryz.prog 130 #[.pointer (some a)] w (Part (right (.mk 4 t n ns ks) false) w):=by
 have KP:=zH (zdf h);generalize hD:right (.mk 4 t n ns ks) false=D;have HD:=zH hD;clear hD;have HND:=zH h;obtain ⟨b,o,vn,x,cap,rfl,c0,c1,c2,c3,c4,hm,hx,hk⟩:=zvi h;clear h;simp only[E.kind,E.text,E.num,E.names,E.kids] at *;have HWW:=zH hw;rw[weight] at hw;have ht:t.size<=1048576:=by omega
 unfold maxLen at hm;have KP2:Hid (∀ P,plain 4 t n ns=P->Calls Tryz.prog 128 #[.pointer (some ⟨b,o,none⟩)] w (Part P w)):=fun P hP=>hP▸KP.out
 clear KP;cases hP:plain 4 t n ns with
 | false=>
  have hD:D=false:=by rw[<-HD.out];exact zet hP
  subst hD;have KP:=zH (KP2.out _ hP);clear HD hP KP2 HWW HND hw hx hk;generalize ks.length=N at *;go_enter Tryz.func130,Tryz.ntmps130;go_wp2_with fail
  refine KP.out.mono ?_;rintro r w1 ⟨rfl,hb1⟩;have B1:=zH hb1;clear hb1;go_wp2_with fail
  go_ret;exact ⟨rfl,B1.out⟩
 | true=>
  have KP:=zH (KP2.out _ hP);have HPL:=zH hP;clear hP KP2;have hv:=ybg (ks:=ks) HPL.out;rw[HD.out] at hv;have HV:=zH hv;have KC:=fun w=>zH (ImplTok.zm5 t w)
  clear hv HD HPL HND HWW hw hx hk;generalize Tok.za3 t=Q at *;generalize ks.length=N at *;cases Q with
  | false=>
   have hD:D=false:=by rw[HV.out];rfl
   subst hD;clear HV;go_enter Tryz.func130,Tryz.ntmps130;go_wp2_with fail
   refine KP.out.mono ?_;rintro r w1 ⟨rfl,hb1⟩;have B1:=zH hb1;have d0:=cell_keep hb1 c0;have d1:=cell_keep hb1 c1;have d2:=cell_keep hb1 c2;have d4:=cell_keep hb1 c4;clear hb1 c0 c1 c2 c3 c4;go_wp2_with fail
   refine (KC _).out.mono ?_;rintro r w2 ⟨rfl,hb2⟩;have B2:=zH (B1.out.trans (hb2.mono B1.out.size));clear hb2 d0 d1 d2 d4;go_wp2_with fail
   go_ret;exact ⟨rfl,B2.out⟩
  | true=>
   by_cases hN:N=0
   ·have hb:((N:Int)==0)=true:=by rw[beq_iff_eq];omega
    have hD:D=true:=by rw[HV.out,decide_eq_true hN];rfl
    have HN:=zH hN;clear hN;subst hD;clear HV;go_enter Tryz.func130,Tryz.ntmps130;go_wp2_with fail
    refine KP.out.mono ?_;rintro r w1 ⟨rfl,hb1⟩;have B1:=zH hb1;have d0:=cell_keep hb1 c0;have d1:=cell_keep hb1 c1;have d2:=cell_keep hb1 c2;have d4:=cell_keep hb1 c4;clear hb1 c0 c1 c2 c3 c4;go_wp2_with fail
    refine (KC _).out.mono ?_;rintro r w2 ⟨rfl,hb2⟩;have B2:=zH (B1.out.trans (hb2.mono B1.out.size));have e4:=cell_keep hb2 d4;clear hb2 d0 d1 d2 d4;go_wp2_with fail
    go_ret;exact ⟨rfl,B2.out⟩
   ·have hb:((N:Int)==0)=false:=by rw[beq_eq_false_iff_ne];omega
    have hD:D=false:=by rw[HV.out,decide_eq_false hN];rfl
    subst hD;clear HV hN;go_enter Tryz.func130,Tryz.ntmps130;go_wp2_with fail
    refine KP.out.mono ?_;rintro r w1 ⟨rfl,hb1⟩;have B1:=zH hb1;have d0:=cell_keep hb1 c0;have d1:=cell_keep hb1 c1;have d2:=cell_keep hb1 c2;have d4:=cell_keep hb1 c4;clear hb1 c0 c1 c2 c3 c4;go_wp2_with fail
    refine (KC _).out.mono ?_;rintro r w2 ⟨rfl,hb2⟩;have B2:=zH (B1.out.trans (hb2.mono B1.out.size));have e4:=cell_keep hb2 d4;clear hb2 d0 d1 d2 d4;go_wp2_with fail
    go_ret;exact ⟨rfl,B2.out⟩
theorem yea {w:World} {a:Addr} {t:ByteArray} {n:Int} {ns:List ByteArray} {ks:List E} (ih:∀ e,e∈ks->OkV e) (hw:weight (.mk 5 t n ns ks)<=1048576) (h:Nd w a (.mk 5 t n ns ks)):
  Calls Tryz.prog 130 #[.pointer (some a)] w (Part (right (.mk 5 t n ns ks) false) w):=by
 have KP:=zH (zdf h);generalize hD:right (.mk 5 t n ns ks) false=D;have HD:=zH hD;clear hD;have HND:=zH h;obtain ⟨b,o,vn,x,cap,rfl,c0,c1,c2,c3,c4,hm,hx,hk⟩:=zvi h;clear h;simp only[E.kind,E.text,E.num,E.names,E.kids] at *;have HWW:=zH hw;rw[weight] at hw;have ht:t.size<=1048576:=by omega
 unfold maxLen at hm;have KP2:Hid (∀ P,plain 5 t n ns=P->Calls Tryz.prog 128 #[.pointer (some ⟨b,o,none⟩)] w (Part P w)):=fun P hP=>hP▸KP.out
 clear KP;cases hP:plain 5 t n ns with
 | false=>
  have hD:D=false:=by rw[<-HD.out];exact zet hP
  subst hD;have KP:=zH (KP2.out _ hP);clear HD hP KP2 HWW HND hw hx hk;generalize ks.length=N at *;go_enter Tryz.func130,Tryz.ntmps130;go_wp2_with fail
  refine KP.out.mono ?_;rintro r w1 ⟨rfl,hb1⟩;have B1:=zH hb1;clear hb1;go_wp2_with fail
  go_ret;exact ⟨rfl,B1.out⟩
 | true=>
  have KP:=zH (KP2.out _ hP);have HPL:=zH hP;clear hP KP2;have hv:=ycg (ks:=ks) HPL.out;rw[HD.out] at hv;have HV:=zH hv;have KC:=fun w=>zH (ImplTok.zm5 t w)
  have KV:=fun w' (hb:Below w.heap.size w w')=>zH (zn9 (cap:=cap) ih (by omega) (hk.keep hb) (by unfold maxLen;omega))
  clear hv HD HPL HND HWW hw hx hk ih;generalize Tok.za3 t=Q at *;generalize zc7 false ks=R at *;generalize ks.length=N at *;cases Q with
  | false=>
   have hD:D=false:=by rw[HV.out];rfl
   subst hD;clear HV;go_enter Tryz.func130,Tryz.ntmps130;go_wp2_with fail
   refine KP.out.mono ?_;rintro r w1 ⟨rfl,hb1⟩;have B1:=zH hb1;have d0:=cell_keep hb1 c0;have d1:=cell_keep hb1 c1;have d2:=cell_keep hb1 c2;have d4:=cell_keep hb1 c4;clear hb1 c0 c1 c2 c3 c4;go_wp2_with fail
   refine (KC _).out.mono ?_;rintro r w2 ⟨rfl,hb2⟩;have B2:=zH (B1.out.trans (hb2.mono B1.out.size));clear hb2 d0 d1 d2 d4;go_wp2_with fail
   go_ret;exact ⟨rfl,B2.out⟩
  | true=>
   by_cases hN:N=1
   ·have hb:((N:Int)==1)=true:=by rw[beq_iff_eq];omega
    have hD:D=R:=by rw[HV.out,decide_eq_true hN];rfl
    have HN:=zH hN;clear hN;subst hD;clear HV;go_enter Tryz.func130,Tryz.ntmps130;go_wp2_with fail
    refine KP.out.mono ?_;rintro r w1 ⟨rfl,hb1⟩;have B1:=zH hb1;have d0:=cell_keep hb1 c0;have d1:=cell_keep hb1 c1;have d2:=cell_keep hb1 c2;have d4:=cell_keep hb1 c4;clear hb1 c0 c1 c2 c3 c4;go_wp2_with fail
    refine (KC _).out.mono ?_;rintro r w2 ⟨rfl,hb2⟩;have B2:=zH (B1.out.trans (hb2.mono B1.out.size));have e4:=cell_keep hb2 d4;clear hb2 d0 d1 d2 d4;go_wp2_with fail
    refine (KV _ B2.out).out.mono ?_;rintro r w3 ⟨rfl,hb3⟩;have B3:=zH (B2.out.trans (hb3.mono B2.out.size));clear hb3 e4;go_wp2_with fail
    go_ret;exact ⟨rfl,B3.out⟩
   ·have hb:((N:Int)==1)=false:=by rw[beq_eq_false_iff_ne];omega
    have hD:D=false:=by rw[HV.out,decide_eq_false hN];rfl
    subst hD;clear HV hN;go_enter Tryz.func130,Tryz.ntmps130;go_wp2_with fail
    refine KP.out.mono ?_;rintro r w1 ⟨rfl,hb1⟩;have B1:=zH hb1;have d0:=cell_keep hb1 c0;have d1:=cell_keep hb1 c1;have d2:=cell_keep hb1 c2;have d4:=cell_keep hb1 c4;clear hb1 c0 c1 c2 c3 c4;go_wp2_with fail
    refine (KC _).out.mono ?_;rintro r w2 ⟨rfl,hb2⟩;have B2:=zH (B1.out.trans (hb2.mono B1.out.size));have e4:=cell_keep hb2 d4;clear hb2 d0 d1 d2 d4;go_wp2_with fail
    go_ret;exact ⟨rfl,B2.out⟩
theorem yem {w:World} {a:Addr} {t:ByteArray} {n:Int} {ns:List ByteArray} {ks:List E} (ih:∀ e,e∈ks->OkV e) (hw:weight (.mk 6 t n ns ks)<=1048576) (h:Nd w a (.mk 6 t n ns ks)):
  Calls Tryz.prog 130 #[.pointer (some a)] w (Part (right (.mk 6 t n ns ks) false) w):=by
 have KP:=zH (zdf h);generalize hD:right (.mk 6 t n ns ks) false=D;have HD:=zH hD;clear hD;have HND:=zH h;obtain ⟨b,o,vn,x,cap,rfl,c0,c1,c2,c3,c4,hm,hx,hk⟩:=zvi h;clear h;simp only[E.kind,E.text,E.num,E.names,E.kids] at *;have HWW:=zH hw;rw[weight] at hw;have ht:t.size<=1048576:=by omega
 unfold maxLen at hm;have KP2:Hid (∀ P,plain 6 t n ns=P->Calls Tryz.prog 128 #[.pointer (some ⟨b,o,none⟩)] w (Part P w)):=fun P hP=>hP▸KP.out
 clear KP;cases hP:plain 6 t n ns with
 | false=>
  have hD:D=false:=by rw[<-HD.out];exact zet hP
  subst hD;have KP:=zH (KP2.out _ hP);clear HD hP KP2 HWW HND hw hx hk;generalize ks.length=N at *;go_enter Tryz.func130,Tryz.ntmps130;go_wp2_with fail
  refine KP.out.mono ?_;rintro r w1 ⟨rfl,hb1⟩;have B1:=zH hb1;clear hb1;go_wp2_with fail
  go_ret;exact ⟨rfl,B1.out⟩
 | true=>
  have KP:=zH (KP2.out _ hP);have HPL:=zH hP;clear hP KP2;have KC:=fun w' (hb:Below w.heap.size w w')=>zH (show Calls Tryz.prog 167 #[.pointer (some ⟨b,o,none⟩),.int .i64 1] w' (Part D w') from ((ya9 Tok.zhx HPL.out).symm.trans HD.out)▸zzd 1 (.inr rfl) ih HWW.out (HND.out.keep hb))
  clear HD HPL HND HWW hw hx hk ih;go_enter Tryz.func130,Tryz.ntmps130;go_wp2_with fail
  refine KP.out.mono ?_;rintro r w1 ⟨rfl,hb1⟩;have B1:=zH hb1;have d0:=cell_keep hb1 c0;have d1:=cell_keep hb1 c1;have d2:=cell_keep hb1 c2;have d4:=cell_keep hb1 c4;clear hb1 c0 c1 c2 c3 c4;go_wp2_with fail
  refine (KC _ B1.out).out.mono ?_;rintro r w2 ⟨rfl,hb2⟩;have B2:=zH (B1.out.trans (hb2.mono B1.out.size));clear hb2 d0 d1 d2 d4;go_wp2_with fail
  go_ret;exact ⟨rfl,B2.out⟩
theorem yel {w:World} {a:Addr} {t:ByteArray} {n:Int} {ns:List ByteArray} {ks:List E} (ih:∀ e,e∈ks->OkV e) (ih2:∀ m,m∈ks->∀ g,g∈m.kids->OkV g) (hw:weight (.mk 7 t n ns ks)<=1048576) (h:Nd w a (.mk 7 t n ns ks)):
  Calls Tryz.prog 130 #[.pointer (some a)] w (Part (right (.mk 7 t n ns ks) false) w):=by
 have KP:=zH (zdf h);generalize hD:right (.mk 7 t n ns ks) false=D;have HD:=zH hD;clear hD;have HND:=zH h;obtain ⟨b,o,vn,x,cap,rfl,c0,c1,c2,c3,c4,hm,hx,hk⟩:=zvi h;clear h;simp only[E.kind,E.text,E.num,E.names,E.kids] at *;have HWW:=zH hw;rw[weight] at hw;have ht:t.size<=1048576:=by omega
 unfold maxLen at hm;have KP2:Hid (∀ P,plain 7 t n ns=P->Calls Tryz.prog 128 #[.pointer (some ⟨b,o,none⟩)] w (Part P w)):=fun P hP=>hP▸KP.out
 clear KP;cases hP:plain 7 t n ns with
 | false=>
  have hD:D=false:=by rw[<-HD.out];exact zet hP
  subst hD;have KP:=zH (KP2.out _ hP);clear HD hP KP2 HWW HND hw hx hk;generalize ks.length=N at *;go_enter Tryz.func130,Tryz.ntmps130;go_wp2_with fail
  refine KP.out.mono ?_;rintro r w1 ⟨rfl,hb1⟩;have B1:=zH hb1;clear hb1;go_wp2_with fail
  go_ret;exact ⟨rfl,B1.out⟩
 | true=>
  have KP:=zH (KP2.out _ hP);have HPL:=zH hP;clear hP KP2;have KC:=fun w' (hb:Below w.heap.size w w')=>zH (zk1 D ((yb4 HPL.out).symm.trans HD.out) ih ih2 HWW.out (HND.out.keep hb))
  clear HD HPL HND HWW hw hx hk ih ih2;go_enter Tryz.func130,Tryz.ntmps130;go_wp2_with fail
  refine KP.out.mono ?_;rintro r w1 ⟨rfl,hb1⟩;have B1:=zH hb1;have d0:=cell_keep hb1 c0;have d1:=cell_keep hb1 c1;have d2:=cell_keep hb1 c2;have d4:=cell_keep hb1 c4;clear hb1 c0 c1 c2 c3 c4;go_wp2_with fail
  refine (KC _ B1.out).out.mono ?_;rintro r w2 ⟨rfl,hb2⟩;have B2:=zH (B1.out.trans (hb2.mono B1.out.size));clear hb2 d0 d1 d2 d4;go_wp2_with fail
  go_ret;exact ⟨rfl,B2.out⟩
theorem yfa {w:World} {a:Addr} {t:ByteArray} {n:Int} {ns:List ByteArray} {ks:List E} (ih:∀ m,m∈ks->OkV m/\OkS m) (hw:weight (.mk 8 t n ns ks)<=1048576) (h:Nd w a (.mk 8 t n ns ks)):
  Calls Tryz.prog 130 #[.pointer (some a)] w (Part (right (.mk 8 t n ns ks) false) w):=by
 have KP:=zH (zdf h);generalize hD:right (.mk 8 t n ns ks) false=D;have HD:=zH hD;clear hD;have HND:=zH h;obtain ⟨b,o,vn,x,cap,rfl,c0,c1,c2,c3,c4,hm,hx,hk⟩:=zvi h;clear h;simp only[E.kind,E.text,E.num,E.names,E.kids] at *;have HWW:=zH hw;rw[weight] at hw;have ht:t.size<=1048576:=by omega
 unfold maxLen at hm;have KP2:Hid (∀ P,plain 8 t n ns=P->Calls Tryz.prog 128 #[.pointer (some ⟨b,o,none⟩)] w (Part P w)):=fun P hP=>hP▸KP.out
 clear KP;cases hP:plain 8 t n ns with
 | false=>
  have hD:D=false:=by rw[<-HD.out];exact zet hP
  subst hD;have KP:=zH (KP2.out _ hP);clear HD hP KP2 HWW HND hw hx hk;generalize ks.length=N at *;go_enter Tryz.func130,Tryz.ntmps130;go_wp2_with fail
  refine KP.out.mono ?_;rintro r w1 ⟨rfl,hb1⟩;have B1:=zH hb1;clear hb1;go_wp2_with fail
  go_ret;exact ⟨rfl,B1.out⟩
 | true=>
  have KP:=zH (KP2.out _ hP);have HPL:=zH hP;clear hP KP2;have KC:=fun w' (hb:Below w.heap.size w w')=>zH (ze8 D ((zxs HPL.out).symm.trans HD.out) ih HWW.out (HND.out.keep hb))
  clear HD HPL HND HWW hw hx hk ih;go_enter Tryz.func130,Tryz.ntmps130;go_wp2_with fail
  refine KP.out.mono ?_;rintro r w1 ⟨rfl,hb1⟩;have B1:=zH hb1;have d0:=cell_keep hb1 c0;have d1:=cell_keep hb1 c1;have d2:=cell_keep hb1 c2;have d4:=cell_keep hb1 c4;clear hb1 c0 c1 c2 c3 c4;go_wp2_with fail
  refine (KC _ B1.out).out.mono ?_;rintro r w2 ⟨rfl,hb2⟩;have B2:=zH (B1.out.trans (hb2.mono B1.out.size));clear hb2 d0 d1 d2 d4;go_wp2_with fail
  go_ret;exact ⟨rfl,B2.out⟩
theorem yfh {w:World} {a:Addr} {k:Int} {t:ByteArray} {n:Int} {ns:List ByteArray} {ks:List E} (h1:¬k=1) (h2:¬k=2) (h3:¬k=3) (h4:¬k=4) (h5:¬k=5) (h6:¬k=6) (h7:¬k=7) (h8:¬k=8) (hw:weight (.mk k t n ns ks)<=1048576) (h:Nd w a (.mk k t n ns ks)):
  Calls Tryz.prog 130 #[.pointer (some a)] w (Part (right (.mk k t n ns ks) false) w):=by
 have KP:=zH (zdf h);generalize hD:right (.mk k t n ns ks) false=D;have HD:=zH hD;clear hD;have HND:=zH h;obtain ⟨b,o,vn,x,cap,rfl,c0,c1,c2,c3,c4,hm,hx,hk⟩:=zvi h;clear h;simp only[E.kind,E.text,E.num,E.names,E.kids] at *;have HWW:=zH hw;rw[weight] at hw;have ht:t.size<=1048576:=by omega
 unfold maxLen at hm;have KP2:Hid (∀ P,plain k t n ns=P->Calls Tryz.prog 128 #[.pointer (some ⟨b,o,none⟩)] w (Part P w)):=fun P hP=>hP▸KP.out
 clear KP;cases hP:plain k t n ns with
 | false=>
  have hD:D=false:=by rw[<-HD.out];exact zet hP
  subst hD;have KP:=zH (KP2.out _ hP);clear HD hP KP2 HWW HND hw hx hk;generalize ks.length=N at *;go_enter Tryz.func130,Tryz.ntmps130;go_wp2_with fail
  refine KP.out.mono ?_;rintro r w1 ⟨rfl,hb1⟩;have B1:=zH hb1;clear hb1;go_wp2_with fail
  go_ret;exact ⟨rfl,B1.out⟩
 | true=>
  have KP:=zH (KP2.out _ hP);have HPL:=zH hP;clear hP KP2;have hD:D=false:=by rw[<-HD.out];exact ya2 h1 h2 h3 h4 h5 h6 h7 h8
  subst hD;have b1:(k==1)=false:=by rw[beq_eq_false_iff_ne];exact h1
  have b2:(k==2)=false:=by rw[beq_eq_false_iff_ne];exact h2
  have b3:(k==3)=false:=by rw[beq_eq_false_iff_ne];exact h3
  have b4:(k==4)=false:=by rw[beq_eq_false_iff_ne];exact h4
  have b5:(k==5)=false:=by rw[beq_eq_false_iff_ne];exact h5
  have b6:(k==6)=false:=by rw[beq_eq_false_iff_ne];exact h6
  have b7:(k==7)=false:=by rw[beq_eq_false_iff_ne];exact h7
  have b8:(k==8)=false:=by rw[beq_eq_false_iff_ne];exact h8
  clear HD HPL HND HWW hw hx hk h1 h2 h3 h4 h5 h6 h7 h8;go_enter Tryz.func130,Tryz.ntmps130;go_wp2_with fail
  refine KP.out.mono ?_;rintro r w1 ⟨rfl,hb1⟩;have B1:=zH hb1;have d0:=cell_keep hb1 c0;have d1:=cell_keep hb1 c1;have d2:=cell_keep hb1 c2;have d4:=cell_keep hb1 c4;clear hb1 c0 c1 c2 c3 c4;go_wp2_with fail
  go_ret;exact ⟨rfl,B1.out⟩
theorem ydj {k:Int} {t:ByteArray} {n:Int} {ns:List ByteArray} {ks:List E} (ih:∀ m,m∈ks->OkV m/\OkS m) (ih2:∀ m,m∈ks->∀ g,g∈m.kids->OkV g):OkV (.mk k t n ns ks):=by
 intro w a hw h;have ihv:∀ m,m∈ks->OkV m:=fun m hm=>(ih m hm).1
 by_cases h1:k=1
 ·subst h1;exact yeb hw h
 by_cases h2:k=2
 ·subst h2;exact ye6 hw h
 by_cases h3:k=3
 ·subst h3;exact yey hw h
 by_cases h4:k=4
 ·subst h4;exact yek hw h
 by_cases h5:k=5
 ·subst h5;exact yea ihv hw h
 by_cases h6:k=6
 ·subst h6;exact yem ihv hw h
 by_cases h7:k=7
 ·subst h7;exact yel ihv ih2 hw h
 by_cases h8:k=8
 ·subst h8;exact yfa ih hw h
 exact yfh h1 h2 h3 h4 h5 h6 h7 h8 hw h
end ImplRight
namespace ImplRight
open Go.RowKit
open Strs Tree zgy ImplLike ImplPlain Rights ImplVals TreeTo
open ImplTok (Part)
theorem ych {k:Int} {t:ByteArray} {n:Int} {ns:List ByteArray} {ks:List E} (ihv:OkV (.mk k t n ns ks)) (ih:∀ m,m∈ks->OkV m):OkS (.mk k t n ns ks):=by
 intro w a hw h;by_cases h9:k=9
 case neg=>
  have KV:=zH (ihv w a hw h);rw[z2h (show ¬(E.mk k t n ns ks).kind=9 from h9)]
  generalize right (.mk k t n ns ks) false=D at *;obtain ⟨b,o,vn,x,cap,rfl,c0,-⟩:=zvi h;simp only[E.kind] at c0;have b9:(k==9)=false:=by rw[beq_eq_false_iff_ne];exact h9
  clear h hw ihv ih h9;go_enter Tryz.func82,Tryz.ntmps82;go_wp2_with fail
  refine KV.out.mono ?_;rintro r w1 ⟨rfl,hb1⟩;have B1:=zH hb1;clear hb1;go_wp2_with fail
  go_ret;exact ⟨rfl,B1.out⟩
 subst h9;have KP:=zH (zdf h);obtain ⟨b,o,vn,x,cap,rfl,c0,c1,c2,c3,c4,hm,hx,hk⟩:=zvi h;simp only[E.kind,E.text,E.num,E.names,E.kids] at *;rw[weight] at hw;unfold maxLen at hm;have KV:=fun w' (hb:Below w.heap.size w w')=>zH (zn9 (cap:=cap) ih (by omega) (hk.keep hb) (by unfold maxLen;omega))
 have HR:Hid (∀ P,plain 9 t n ns=P->right (.mk 9 t n ns ks) true=(P&&decide (ks.length=1)&&zc7 false ks)):=by
  intro P hP;cases P with
  | false=>rw[zet hP];rfl
  | true=>rw[zwc hP];rfl
 have HRR:=zH (HR.out _ rfl);clear h hk ih hx hw HR ihv;generalize right (.mk 9 t n ns ks) true=D at *;generalize plain 9 t n ns=P at *;generalize zc7 false ks=R at *;generalize ks.length=N at *;cases P with
 | false=>
  have hD:D=false:=by rw[HRR.out];rfl
  subst hD;clear HRR;go_enter Tryz.func82,Tryz.ntmps82;go_wp2_with fail
  refine KP.out.mono ?_;rintro r w1 ⟨rfl,hb1⟩;have B1:=zH hb1;clear hb1;go_wp2_with fail
  go_ret;exact ⟨rfl,B1.out⟩
 | true=>
  by_cases hN:N=1
  ·have hb:((N:Int)==1)=true:=by rw[beq_iff_eq];omega
   have hD:D=R:=by rw[HRR.out,decide_eq_true hN];rfl
   have HN:=zH hN;clear hN;subst hD;clear HRR;go_enter Tryz.func82,Tryz.ntmps82;go_wp2_with fail
   refine KP.out.mono ?_;rintro r w1 ⟨rfl,hb1⟩;have B1:=zH hb1;have d4:=cell_keep hb1 c4;clear hb1;go_wp2_with fail
   refine (KV _ B1.out).out.mono ?_;rintro r w2 ⟨rfl,hb2⟩;have B2:=zH (B1.out.trans (hb2.mono B1.out.size));clear hb2 d4;go_wp2_with fail
   go_ret;exact ⟨rfl,B2.out⟩
  ·have hb:((N:Int)==1)=false:=by rw[beq_eq_false_iff_ne];omega
   have hD:D=false:=by rw[HRR.out,decide_eq_false hN];rfl
   subst hD;clear HRR hN;go_enter Tryz.func82,Tryz.ntmps82;go_wp2_with fail
   refine KP.out.mono ?_;rintro r w1 ⟨rfl,hb1⟩;have B1:=zH hb1;have d4:=cell_keep hb1 c4;clear hb1;go_wp2_with fail
   go_ret;exact ⟨rfl,B1.out⟩
theorem zo2:∀ e,(OkV e/\OkS e)/\∀ g,g∈e.kids->OkV g:=by
 refine ind fun k t n ns ks ih=>?_
 have hv:OkV (.mk k t n ns ks):=ydj (fun m hm=>(ih m hm).1) (fun m hm=>(ih m hm).2)
 exact ⟨⟨hv,ych hv (fun m hm=>(ih m hm).1.1)⟩,fun g hg=>(ih g hg).1.1⟩
theorem zml {lo:Nat} {e:E} {v:Value} {w:World} (h:Reads lo w e v) (hs:z4k lo w e v) (hw:weight e<=1048576):
  Calls Tryz.prog 32 #[v] w (Part (zdm e) w):=by
 obtain ⟨vn,vk,rfl,hn⟩:=h;obtain ⟨_,_,_,_,_,he,hs⟩:=hs;cases he;have hb:Below w.heap.size w (w.alloc (.cells #[.int .i64 e.kind,.string e.text,.int .i64 e.num,vn,vk] 25)):=(zB _ _).alloc (zL _) _;have hnd:=z8x hn hs 25;have K:=zH (ImplMeas.zxn _ _ e hnd (by have:=zpd e;omega));have KS:=fun w' (hb:Below (w.alloc (.cells #[.int .i64 e.kind,.string e.text,.int .i64 e.num,vn,vk] 25)).heap.size (w.alloc (.cells #[.int .i64 e.kind,.string e.text,.int .i64 e.num,vn,vk] 25)) w')=>zH ((zo2 e).1.2 w' _ hw (hnd.keep hb))
 have HE:Hid (zdm e=(decide (size e<=300)&&decide (depth e<=25)&&right e true)):=rfl;have HB:=zH hb;unfold Dfs.ext at K;clear hn hs hb hnd hw;generalize zdm e=D at *;generalize right e true=R at *;generalize size e=sz at *;generalize depth e=dp at *;go_enter Tryz.func32,Tryz.ntmps32;go_wp2_with fail
 refine K.out.mono ?_;rintro r w1 ⟨rfl,hb1⟩;have H1:=zH (HB.out.trans (hb1.mono HB.out.size));have HS1:=zH hb1;clear hb1;by_cases hsz:sz<=300
 case neg=>
  have hD:D=false:=by rw[HE.out,decide_eq_false hsz];rfl
  subst hD;have q1:¬((sz:Int)<=300):=by omega
  clear HE hsz;go_wp2_with fail
  go_ret;exact ⟨rfl,H1.out.alloc H1.out.size _⟩
 have q1:(sz:Int)<=300:=by omega
 by_cases hdp:dp<=25
 case neg=>
  have hD:D=false:=by rw[HE.out,decide_eq_false hdp];simp
  subst hD;have q2:¬((dp:Int)<=25):=by omega
  clear HE hdp hsz;go_wp2_with fail
  go_ret;exact ⟨rfl,H1.out.alloc H1.out.size _⟩
 have q2:(dp:Int)<=25:=by omega
 have hD:D=R:=by rw[HE.out,decide_eq_true hsz,decide_eq_true hdp];rfl
 subst hD;clear HE hdp hsz;go_wp2_with fail
 refine (KS _ (HS1.out.alloc HS1.out.size _)).out.mono ?_;rintro r w2 ⟨rfl,hb2⟩;have H2:=zH ((H1.out.alloc H1.out.size _).trans (hb2.mono (Nat.le_trans H1.out.size (by simp))));clear hb2;go_wp2_with fail
 go_ret;exact ⟨rfl,H2.out⟩
end ImplRight
end Go.Proofs.YtlmhgeanknhcfaaGreatDoor
