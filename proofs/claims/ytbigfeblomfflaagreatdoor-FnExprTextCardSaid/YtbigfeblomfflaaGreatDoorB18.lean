/-
  Pairs ImplLike ImplPlain Rights
-/
import Derived.Test.YtbigfeblomfflaaGreatDoorB39
set_option maxHeartbeats 4000000
namespace Go.Proofs.YtbigfeblomfflaaGreatDoor.Pairs
open Tree Dfs
def Like (e f:E):Prop:=e.kind=f.kind/\e.text=f.text/\e.num=f.num/\e.names=f.names/\e.kids.length=f.kids.length
theorem like_of {e f:E} (h:e=f):Like e f:=by subst h;exact ⟨rfl,rfl,rfl,rfl,rfl⟩
theorem eq_of {e f:E} (h:Like e f) (hk:∀ i (h1:i<e.kids.length) (h2:i<f.kids.length),e.kids[i]=f.kids[i]):e=f:=by
 obtain ⟨k,t,n,ns,ks⟩:=e;obtain ⟨k',t',n',ns',ks'⟩:=f;obtain ⟨h1,h2,h3,h4,h5⟩:=h;simp only[E.kind,E.text,E.num,E.names,E.kids] at *;subst h1 h2 h3 h4
 congr 1
 exact List.ext_getElem h5 hk
section
variable {A:Type} (N:A->Prop) (T:A->E) (kid:A->Nat->A) (root:A×A) (met:A×A->Prop)
def Eq2 (c:A×A):Prop:=T c.1=T c.2
def kid2 (c:A×A) (i:Nat):A×A:=(kid c.1 i,kid c.2 i)
def Seen (c:A×A):Prop:=Like (T c.1) (T c.2)/\∀ i,i<(T c.1).kids.length->met (kid2 kid c i)
structure Inv (q:List (A×A)) (but:A×A->Prop):Prop where
 nodes:∀ c,c∈q->N c.1/\N c.2
 metNodes:∀ c,met c->N c.1/\N c.2
 sound:Eq2 T root->∀ c,c∈q->Eq2 T c
 closed:∀ c,(c=root\/met c)->c∈q\/but c\/Seen T kid met c
def mu2:List (A×A)->Nat
 | []=>0
 | c::q=>size (T c.1)+mu2 q
variable {N T kid root met}
theorem mu2_len:∀ q:List (A×A),q.length<=mu2 T q
 | []=>zL _
 | c::q=>by have:=mu2_len q;have:=size_pos (T c.1);simp only[mu2,List.length_cons];omega
theorem inv_start (h:N root.1/\N root.2) (hm:∀ c,¬met c):Inv N T kid root met [root] (fun _=>False):=
 ⟨fun c hc=>by simp at hc;subst hc;exact h,fun c hc=>absurd hc (hm c),fun he c hc=>by simp at hc;subst hc;exact he,
  fun c hc=>by
   rcases hc with rfl|hc
   ·simp
   ·exact absurd hc (hm c)⟩
theorem inv_end (H:Dfs.Kids N T kid) (hr:N root.1/\N root.2) (h:Inv N T kid root met [] (fun _=>False)):Eq2 T root:=by
 have key:∀ (n:Nat) (c:A×A),size (T c.1)<=n->(N c.1/\N c.2)->(c=root\/met c)->Eq2 T c:=by
  intro n
  induction n with
  | zero=>intro c hc;have:=size_pos (T c.1);omega
  | succ n ih=>
   intro c hc hN hm;rcases h.closed c hm with h1|h1|⟨hl,hk⟩
   ·cases h1
   ·cases h1
   ·refine eq_of hl fun i h1 h2=>?_
    have g1:=H c.1 i hN.1 h1;have g2:=H c.2 i hN.2 h2;have hlt:=kid_lt _ i h1;have e1:T (kid c.1 i)=(T c.1).kids[i]:=by rw[g1.2,getElem!_pos _ i h1]
    have e2:T (kid c.2 i)=(T c.2).kids[i]:=by rw[g2.2,getElem!_pos _ i h2]
    have:=ih (kid2 kid c i) (by show size (T (kid c.1 i))<=n;rw[e1];omega) ⟨g1.1,g2.1⟩ (.inr (hk i h1))
    have h3:T (kid c.1 i)=T (kid c.2 i):=this;rw[e1,e2] at h3;exact h3
 exact key _ root (zL _) hr (.inl rfl)
theorem inv_no {c:A×A} {q:List (A×A)} (h:Inv N T kid root met (c::q) (fun _=>False)) (hl:¬Like (T c.1) (T c.2)):¬Eq2 T root:=
 fun he=>hl (like_of (h.sound he c (by simp)))
theorem inv_take {c:A×A} {q:List (A×A)} (h:Inv N T kid root met (c::q) (fun _=>False)):Inv N T kid root met q (fun x=>x=c):=by
 refine ⟨fun x hx=>h.nodes x (by simp[hx]),h.metNodes,fun he x hx=>h.sound he x (by simp[hx]),fun x hx=>?_⟩
 rcases h.closed x hx with h1|h1|h1
 ·rcases List.mem_cons.1 h1 with h1|h1
  ·exact .inr (.inl h1)
  ·exact .inl h1
 ·cases h1
 ·exact .inr (.inr h1)
theorem inv_seen {c:A×A} {q:List (A×A)} (h:Inv N T kid root met q (fun x=>x=c)) (hs:Seen T kid met c):Inv N T kid root met q (fun _=>False):=by
 refine ⟨h.nodes,h.metNodes,h.sound,fun x hx=>?_⟩
 rcases h.closed x hx with h1|h1|h1
 ·exact .inl h1
 ·subst h1;exact .inr (.inr hs)
 ·exact .inr (.inr h1)
theorem inv_meet (H:Dfs.Kids N T kid) {c:A×A} {q:List (A×A)} {i:Nat} (h:Inv N T kid root met q (fun x=>x=c)) (hN:N c.1/\N c.2) (hl:Like (T c.1) (T c.2)) (hi:i<(T c.1).kids.length) (he:Eq2 T root->Eq2 T c):
  Inv N T kid root (fun x=>x=kid2 kid c i\/met x) (kid2 kid c i::q) (fun x=>x=c)/\size (T (kid2 kid c i).1)=size (T c.1).kids[i]:=by
 have hi2:i<(T c.2).kids.length:=by have:=hl.2.2.2.2;omega
 have g1:=H c.1 i hN.1 hi;have g2:=H c.2 i hN.2 hi2;have e1:T (kid c.1 i)=(T c.1).kids[i]:=by rw[g1.2,getElem!_pos _ i hi]
 have e2:T (kid c.2 i)=(T c.2).kids[i]:=by rw[g2.2,getElem!_pos _ i hi2]
 refine ⟨⟨fun x hx=>?_,fun x hx=>?_,fun hr x hx=>?_,fun x hx=>?_⟩,by show size (T (kid c.1 i))=_;rw[e1]⟩
 ·rcases List.mem_cons.1 hx with rfl|hx
  ·exact ⟨g1.1,g2.1⟩
  ·exact h.nodes x hx
 ·rcases hx with rfl|hx
  ·exact ⟨g1.1,g2.1⟩
  ·exact h.metNodes x hx
 ·rcases List.mem_cons.1 hx with rfl|hx
  ·show T (kid c.1 i)=T (kid c.2 i)
   rw[e1,e2];have hc:T c.1=T c.2:=he hr;simp only[hc]
  ·exact h.sound hr x hx
 ·rcases hx with hx|hx|hx
  ·rcases h.closed x (.inl hx) with h1|h1|h1
   ·exact .inl (by simp[h1])
   ·exact .inr (.inl h1)
   ·exact .inr (.inr ⟨h1.1,fun j hj=>.inr (h1.2 j hj)⟩)
  ·subst hx;exact .inl (by simp)
  ·rcases h.closed x (.inr hx) with h1|h1|h1
   ·exact .inl (by simp[h1])
   ·exact .inr (.inl h1)
   ·exact .inr (.inr ⟨h1.1,fun j hj=>.inr (h1.2 j hj)⟩)
end
end Go.Proofs.YtbigfeblomfflaaGreatDoor.Pairs
namespace Go.Proofs.YtbigfeblomfflaaGreatDoor
namespace ImplLike
open Go.RowKit
open Strs Tree Soft Pairs
def Drawn (w w':World):Prop:=∃ m,w'=w.drewN m
theorem Drawn.more {w w':World} (h:Drawn w w') (k:Nat):Drawn w (w'.drewN k):=by obtain ⟨m,rfl⟩:=h;exact ⟨m+k,by rw[World.drewN_drewN]⟩
theorem Drawn.below {w w':World} (h:Drawn w w'):Below w.heap.size w w':=by obtain ⟨m,rfl⟩:=h;exact ⟨rfl,rfl,rfl,zL _,fun _ _=>rfl⟩
theorem texts_cons (a1 a2:Option Addr) (c1 c2 n:Nat) (xs ys:List ByteArray) (w:World) (hx:xs.length=n) (hy:ys.length=n) (hm:n<=maxLen)
  (h1:0<n->∃ b o,a1=some ⟨b,o,none⟩/\∀ j (h:j<xs.length),w.cell? ⟨b,o+j,none⟩=some (.string xs[j]))
  (h2:0<n->∃ b o,a2=some ⟨b,o,none⟩/\∀ j (h:j<ys.length),w.cell? ⟨b,o+j,none⟩=some (.string ys[j])):
  Calls Tryz.prog 115 #[.slice a1 n c1,.slice a2 n c2] w fun e w'=>e=.returned (.bool (decide (xs=ys)))/\Drawn w w':=by
 unfold maxLen at hm;have H1:=zH h1;clear h1;have H2:=zH h2;clear h2;have HX:=zH hx;clear hx;have HY:=zH hy;clear hy;generalize hD:decide (xs=ys)=D;have HD:=zH hD;clear hD;go_enter Tryz.func115,Tryz.ntmps115;go_wp2_with fail
 go_loopw [13] (fun j wr=>∃ i:Nat,i<=n/\j=.int .i64 i/\Drawn w wr/\Hid (∀ j (h1:j<xs.length) (h2:j<ys.length),j<i->xs[j]=ys[j])) (fun j _=>n-(intOf j).toNat)
 case atStart=>exact ⟨0,by omega,rfl,⟨0,rfl⟩,fun j _ _ h=>by omega⟩
 case round=>
  obtain ⟨i,hi,rfl,hdr,HS⟩:=hrel;have HDR:=zH hdr;have hbw:=hdr.below;clear hdr;by_cases hlt:i<n
  ·have hix:i<xs.length:=by rw[HX.out];exact hlt
   have hiy:i<ys.length:=by rw[HY.out];exact hlt
   obtain ⟨b1,o1,rfl,d1⟩:=H1.out (by omega);obtain ⟨b2,o2,rfl,d2⟩:=H2.out (by omega);have hc1:wr.cell? ⟨b1,o1+i,none⟩=some (.string xs[i]):=cell_keep hbw (d1 i hix);have hc2:wr.cell? ⟨b2,o2+i,none⟩=some (.string ys[i]):=cell_keep hbw (d2 i hiy);clear d1 d2 hbw;generalize hs:xs[i]=s at *;generalize ht:ys[i]=t at *;have HE:=zH (And.intro hs ht);clear hs ht;by_cases hst:s=t
   ·subst hst
    go_wp2_with fail
    go_quiet (fail)
    go_wp2_with fail
    go_roundw
    case rel=>
     refine ⟨i+1,by omega,by go_num,HDR.out.more _,fun j g1 g2 hj=>?_⟩
     by_cases e:j=i
     ·subst e;exact HE.out.1.trans HE.out.2.symm
     ·exact HS.out j g1 g2 (by omega)
    case measure=>simp[intOf];omega
   ·have hD:D=false:=by
     rw[<-HD.out];refine decide_eq_false fun e=>hst ?_
     rw[<-HE.out.1,<-HE.out.2];simp[e]
    subst hD;have hb:=SpecEqual.beq_no hst;clear hst;go_wp2_with fail
    go_quiet (fail)
    go_wp2_with fail
    go_ret;exact ⟨rfl,HDR.out.more _⟩
  ·have hD:D=true:=by
    rw[<-HD.out];refine decide_eq_true ?_;have h1:=HX.out;have h2:=HY.out;exact List.ext_getElem (by omega) fun j g1 g2=>HS.out j g1 g2 (by omega)
   subst hD;clear hbw;go_wp2_with fail
   go_ret;exact ⟨rfl,HDR.out⟩
theorem texts_any {lo1 lo2:Nat} {xs ys:List ByteArray} {v1 v2:Value} {w:World} (h1:Texts lo1 w xs v1) (h2:Texts lo2 w ys v2):
  Calls Tryz.prog 115 #[v1,v2] w fun e w'=>e=.returned (.bool (decide (xs=ys)))/\Drawn w w':=by
 obtain ⟨a1,c1,rfl,m1,_,d1⟩:=h1;obtain ⟨a2,c2,rfl,m2,_,d2⟩:=h2;by_cases h:xs.length=ys.length
 ·rw[<-h]
  refine texts_cons a1 a2 c1 c2 xs.length xs ys w rfl h.symm (Nat.le_trans m1.1 m1.2) (fun hp=>?_) (fun hp=>?_)
  ·obtain ⟨b,o,e,_,d⟩:=d1 hp;exact ⟨b,o,e,d⟩
  ·obtain ⟨b,o,e,_,d⟩:=d2 (by omega);exact ⟨b,o,e,d⟩
 ·have hne:¬(xs.length:Int)=(ys.length:Int):=by omega
  rw[decide_eq_false (fun e:xs=ys=>h (by rw[e]))]
  clear d1 d2 m1 m2;generalize xs.length=n1 at *;generalize ys.length=n2 at *;go_enter Tryz.func115,Tryz.ntmps115;go_wp2_with fail
  go_ret;exact ⟨rfl,0,rfl⟩
noncomputable def likeB (e f:E):Bool:=@decide (Like e f) (Classical.propDecidable _)
theorem likeB_yes {e f:E} (h:Like e f):likeB e f=true:=@decide_eq_true _ (Classical.propDecidable _) h
theorem likeB_no {e f:E} (h:¬Like e f):likeB e f=false:=@decide_eq_false _ (Classical.propDecidable _) h
theorem like_any {w0 w:World} {a b:Addr} {e f:E} (hb:Below w0.heap.size w0 w) (h1:Nd w0 a e) (h2:Nd w0 b f):
  Calls Tryz.prog 49 #[.pointer (some a),.pointer (some b)] w fun r w'=>r=.returned (.bool (likeB e f))/\Drawn w w':=by
 obtain ⟨ba,oa,vn,x,cap,rfl,c0,c1,c2,c3,c4,hm,hm2,hx,-,-,-,-⟩:=(h1.keep hb).see;obtain ⟨bb,ob,vn',x',cap',rfl,d0,d1,d2,d3,d4,hm',hm2',hx',-,-,-,-⟩:=(h2.keep hb).see;clear h1 h2 hb;obtain ⟨k,t,n,ns,ks⟩:=e;obtain ⟨k',t',n',ns',ks'⟩:=f;simp only[E.kind,E.text,E.num,E.names,E.kids] at *;have KT:=fun q=>zH (texts_any (w:=w.drewN q) (show Texts 0 (w.drewN q) ns vn from hx) (show Texts 0 (w.drewN q) ns' vn' from hx'))
 clear hx hx';unfold maxLen at hm2 hm2';generalize hD:likeB (.mk k t n ns ks) (.mk k' t' n' ns' ks')=D;have HD:=zH hD;clear hD;by_cases ek:k=k'
 case neg=>
  have hD:D=false:=by rw[<-HD.out];exact likeB_no (fun h=>ek h.1)
  subst hD;have bk:((k:Int)==k')=false:=by rw[beq_eq_false_iff_ne];exact ek
  go_enter Tryz.func49,Tryz.ntmps49;go_wp2_with fail
  go_quiet (fail)
  go_wp2_with fail
  go_ret;exact ⟨rfl,_,rfl⟩
 subst ek;by_cases et:t=t'
 case neg=>
  have hD:D=false:=by rw[<-HD.out];exact likeB_no (fun h=>et h.2.1)
  subst hD;have bt:=SpecEqual.beq_no et;clear et;go_enter Tryz.func49,Tryz.ntmps49;go_wp2_with fail
  go_quiet (fail)
  go_wp2_with fail
  go_ret;exact ⟨rfl,_,rfl⟩
 subst et;by_cases en:n=n'
 case neg=>
  have hD:D=false:=by rw[<-HD.out];exact likeB_no (fun h=>en h.2.2.1)
  subst hD;have bn:((n:Int)==n')=false:=by rw[beq_eq_false_iff_ne];exact en
  go_enter Tryz.func49,Tryz.ntmps49;go_wp2_with fail
  go_quiet (fail)
  go_wp2_with fail
  go_ret;exact ⟨rfl,_,rfl⟩
 subst en;by_cases es:ns=ns'
 case neg=>
  have hD:D=false:=by rw[<-HD.out];exact likeB_no (fun h=>es h.2.2.2.1)
  subst hD;rw[decide_eq_false es] at KT;clear es;go_enter Tryz.func49,Tryz.ntmps49;go_wp2_with fail
  go_quiet ((go_at_call 115;exact Calls.quiet_of (KT _).out))
  go_wp2_with fail
  go_ret;exact ⟨rfl,_,rfl⟩
 subst es;rw[decide_eq_true rfl] at KT;by_cases el:ks.length=ks'.length
 case neg=>
  have hD:D=false:=by rw[<-HD.out];exact likeB_no (fun h=>el h.2.2.2.2)
  subst hD;have bl:((ks.length:Int)==(ks'.length:Int))=false:=by rw[beq_eq_false_iff_ne];omega
  clear HD;generalize ks.length=l1 at *;generalize ks'.length=l2 at *;go_enter Tryz.func49,Tryz.ntmps49;go_wp2_with fail
  go_quiet ((go_at_call 115;exact Calls.quiet_of (KT _).out))
  go_wp2_with fail
  go_ret;exact ⟨rfl,_,rfl⟩
 have hD:D=true:=by rw[<-HD.out];exact likeB_yes ⟨rfl,rfl,rfl,rfl,el⟩
 subst hD;rw[<-el] at d4 hm';clear HD el;generalize ks.length=l1 at *;go_enter Tryz.func49,Tryz.ntmps49;go_wp2_with fail
 go_quiet ((go_at_call 115;exact Calls.quiet_of (KT _).out))
 go_wp2_with fail
 go_ret;exact ⟨rfl,_,rfl⟩
end ImplLike
namespace ImplPlain
open Go.RowKit
open Strs Tree Soft ImplLike
def plain (k:Int) (t:ByteArray) (n:Int) (ns:List ByteArray):Bool:=
 if k=1 then decide (t.size=0)&&decide (ns.length=0)
 else if k=2\/k=3\/k=4\/k=5\/k=6 then decide (n=0)&&decide (ns.length=0)
 else if k=7\/k=9 then decide (t.size=0)&&decide (n=0)&&decide (ns.length=0)
 else if k=8 then decide (t.size=0)
 else false
theorem text_flag (t:ByteArray):(!t.toList.isEmpty)=!(decide (t.size=0)):=by
 by_cases h:t.size=0
 ·rw[SpecNode.is_text h,ByteArray.toList_eq];rfl
 ·rw[SpecNode.no_text h];simp[h]
theorem plain_any {w:World} {a:Addr} {e:E} (h:Nd w a e):
  Calls Tryz.prog 91 #[.pointer (some a)] w fun r w'=>r=.returned (.bool (plain e.kind e.text e.num e.names))/\Drawn w w':=by
 obtain ⟨b,o,vn,x,cap,rfl,c0,c1,c2,c3,c4,hm,hm2,hx,-,-,-,-⟩:=h.see;clear h;obtain ⟨k,t,n,ns,ks⟩:=e;simp only[E.kind,E.text,E.num,E.names,E.kids] at *;obtain ⟨x3,p3,rfl,hm3,-⟩:=hx;unfold maxLen at hm2 hm3;generalize hD:plain k t n ns=D;have HD:=zH hD;clear hD;go_enter Tryz.func91,Tryz.ntmps91;go_wp2_with fail
 go_quiet (fail)
 have hD2:D=(if k=1 then !(!t.toList.isEmpty)&&!(decide (0<ns.length)) else if k=2\/k=3\/k=4\/k=5\/k=6 then !(n != 0)&&!(decide (0<ns.length)) else if k=7\/k=9 then !(!t.toList.isEmpty)&&!(n != 0)&&!(decide (0<ns.length)) else if k=8 then !(!t.toList.isEmpty) else false):=by
  have e1:(!(n != 0))=decide (n=0):=by by_cases h:n=0<;>simp[h]
  have e2:(!(decide (0<ns.length)))=decide (ns.length=0):=by by_cases h:ns.length=0<;>simp[h]<;>omega
  rw[<-HD.out,text_flag,e1,e2,Bool.not_not];rfl
 generalize (!t.toList.isEmpty)=tb at *;generalize (n != 0)=nb at *;generalize decide (0<ns.length)=lb at *;generalize ns.length=L at *;have HD2:=zH hD2;clear hD2 HD;by_cases h1:k=1
 case pos=>
  subst h1;have hv:D=(!tb&&!lb):=by rw[HD2.out];simp
  have HV:=zH hv;clear hv HD2;cases tb<;>cases lb
  all_goals
   go_wp2_with fail
   go_ret;exact ⟨by rw[HV.out];rfl,_,rfl⟩
 have b1:(k==1)=false:=by rw[beq_eq_false_iff_ne];exact h1
 by_cases h2:k=2
 case pos=>
  subst h2;have hv:D=(!nb&&!lb):=by rw[HD2.out];simp
  have HV:=zH hv;clear hv HD2;cases nb<;>cases lb
  all_goals
   go_wp2_with fail
   go_ret;exact ⟨by rw[HV.out];rfl,_,rfl⟩
 have b2:(k==2)=false:=by rw[beq_eq_false_iff_ne];exact h2
 by_cases h3:k=3
 case pos=>
  subst h3;have hv:D=(!nb&&!lb):=by rw[HD2.out];simp
  have HV:=zH hv;clear hv HD2;cases nb<;>cases lb
  all_goals
   go_wp2_with fail
   go_ret;exact ⟨by rw[HV.out];rfl,_,rfl⟩
 have b3:(k==3)=false:=by rw[beq_eq_false_iff_ne];exact h3
 by_cases h4:k=4
 case pos=>
  subst h4;have hv:D=(!nb&&!lb):=by rw[HD2.out];simp
  have HV:=zH hv;clear hv HD2;cases nb<;>cases lb
  all_goals
   go_wp2_with fail
   go_ret;exact ⟨by rw[HV.out];rfl,_,rfl⟩
 have b4:(k==4)=false:=by rw[beq_eq_false_iff_ne];exact h4
 by_cases h5:k=5
 case pos=>
  subst h5;have hv:D=(!nb&&!lb):=by rw[HD2.out];simp
  have HV:=zH hv;clear hv HD2;cases nb<;>cases lb
  all_goals
   go_wp2_with fail
   go_ret;exact ⟨by rw[HV.out];rfl,_,rfl⟩
 have b5:(k==5)=false:=by rw[beq_eq_false_iff_ne];exact h5
 by_cases h6:k=6
 case pos=>
  subst h6;have hv:D=(!nb&&!lb):=by rw[HD2.out];simp
  have HV:=zH hv;clear hv HD2;cases nb<;>cases lb
  all_goals
   go_wp2_with fail
   go_ret;exact ⟨by rw[HV.out];rfl,_,rfl⟩
 have b6:(k==6)=false:=by rw[beq_eq_false_iff_ne];exact h6
 by_cases h7:k=7
 case pos=>
  subst h7;have hv:D=(!tb&&!nb&&!lb):=by rw[HD2.out];simp
  have HV:=zH hv;clear hv HD2;cases tb<;>cases nb<;>cases lb
  all_goals
   go_wp2_with fail
   go_ret;exact ⟨by rw[HV.out];rfl,_,rfl⟩
 have b7:(k==7)=false:=by rw[beq_eq_false_iff_ne];exact h7
 by_cases h9:k=9
 case pos=>
  subst h9;have hv:D=(!tb&&!nb&&!lb):=by rw[HD2.out];simp
  have HV:=zH hv;clear hv HD2;cases tb<;>cases nb<;>cases lb
  all_goals
   go_wp2_with fail
   go_ret;exact ⟨by rw[HV.out];rfl,_,rfl⟩
 have b9:(k==9)=false:=by rw[beq_eq_false_iff_ne];exact h9
 by_cases h8:k=8
 case pos=>
  subst h8;have hv:D=(!tb):=by rw[HD2.out];simp
  have HV:=zH hv;clear hv HD2;cases tb
  all_goals
   go_wp2_with fail
   go_ret;exact ⟨by rw[HV.out];rfl,_,rfl⟩
 have b8:(k==8)=false:=by rw[beq_eq_false_iff_ne];exact h8
 have hv:D=false:=by rw[HD2.out];simp[h1,h2,h3,h4,h5,h6,h7,h8,h9]
 subst hv;clear HD2 h1 h2 h3 h4 h5 h6 h7 h8 h9;go_wp2_with fail
 go_ret;exact ⟨rfl,_,rfl⟩
end ImplPlain
end Go.Proofs.YtbigfeblomfflaaGreatDoor
namespace Go.Proofs.YtbigfeblomfflaaGreatDoor.Rights
open Tree ImplPlain
theorem right_eq (k:Int) (t:ByteArray) (n:Int) (ns:List ByteArray) (ks:List E) (st:Bool):
  right (.mk k t n ns ks) st=(node k t n ns ks.length (tailOk ks)&&(decide (k≠9)||st)&&(if k=7 then headOk ks else rights (decide (k=8)) ks)):=by rw[right]
theorem value_is (e:E):right e false=(right e true&&decide (e.kind≠9)):=by
 obtain ⟨k,t,n,ns,ks⟩:=e;rw[right_eq,right_eq];simp only[E.kind];by_cases h:k=9
 ·simp[h]
 ·simp[h]
theorem stmt_not9 {e:E} (h:¬e.kind=9):right e true=right e false:=by rw[value_is];simp[h]
theorem no_kids {ks:List E} (h:ks.length=0):ks=[]:=List.eq_nil_of_length_eq_zero h
theorem not_plain {k:Int} {t:ByteArray} {n:Int} {ns:List ByteArray} {ks:List E} {st:Bool} (h:plain k t n ns=false):right (.mk k t n ns ks) st=false:=by
 rw[right_eq]
 have:node k t n ns ks.length (tailOk ks)=false:=by
  unfold plain at h;unfold node
  split
  ·rfl
  ·rename_i hc
   have hc1:¬(k≠8/\0<ns.length):=fun x=>hc (.inl x)
   have hc2:¬(k≠1/\k≠8/\n≠0):=fun x=>hc (.inr x)
   by_cases h1:k=1
   ·subst h1
    have hl:ns.length=0:=by have:=hc1;simp at this;simp[this]
    simp[hl] at h;simp[h]
   by_cases h8:k=8
   ·subst h8
    simp at h;simp[h]
   have hn:n=0:=by
    by_cases e:n=0
    ·exact e
    ·exact absurd ⟨h1,h8,e⟩ hc2
   have hl:ns.length=0:=by
    by_cases e:ns.length=0
    ·exact e
    ·exact absurd ⟨h8,by omega⟩ hc1
   simp only[hn,hl] at h;by_cases h7:k=7
   ·subst h7;simp at h;simp[h]
   by_cases h9:k=9
   ·subst h9;simp at h;simp[h]
   by_cases h2:k=2
   ·simp[h2] at h
   by_cases h3:k=3
   ·simp[h3] at h
   by_cases h4:k=4
   ·simp[h4] at h
   by_cases h5:k=5
   ·simp[h5] at h
   by_cases h6:k=6
   ·simp[h6] at h
   simp[h1,h2,h3,h4,h5,h6,h7,h8,h9]
 rw[this];rfl
section
variable {t:ByteArray} {n:Int} {ns:List ByteArray} {ks:List E}
theorem plain_1 (h:plain 1 t n ns=true):t.size=0/\ns.length=0:=by simpa [plain] using h
theorem plain_p {k:Int} (hk:k=2\/k=3\/k=4\/k=5\/k=6) (h:plain k t n ns=true):n=0/\ns.length=0:=by
 have h1:¬k=1:=by omega
 simpa [plain,h1,hk] using h
theorem plain_q {k:Int} (hk:k=7\/k=9) (h:plain k t n ns=true):t.size=0/\n=0/\ns.length=0:=by
 have h1:¬k=1:=by omega
 have h2:¬(k=2\/k=3\/k=4\/k=5\/k=6):=by omega
 have:=h;simp only[plain,if_neg h1,if_neg h2,if_pos hk,Bool.and_eq_true,decide_eq_true_eq] at this;exact ⟨this.1.1,this.1.2,this.2⟩
theorem plain_8 (h:plain 8 t n ns=true):t.size=0:=by simpa [plain] using h
theorem rights_none {b:Bool} (h:ks.length=0):rights b ks=true:=by rw[no_kids h];rfl
theorem right_1 (h:plain 1 t n ns=true):right (.mk 1 t n ns ks) false=(decide (0<=n)&&decide (n<=999999999)&&decide (ks.length=0)):=by
 obtain ⟨h1,h2⟩:=plain_1 h;rw[right_eq];by_cases hk:ks.length=0
 ·by_cases h0:0<=n<;>by_cases h9:n<=999999999<;>simp[node,h1,h2,hk,h0,h9,rights_none hk]
 ·simp[node,h1,h2,hk]
theorem right_2 (h:plain 2 t n ns=true):right (.mk 2 t n ns ks) false=(isText t&&decide (ks.length=0)):=by
 obtain ⟨h1,h2⟩:=plain_p (.inl rfl) h;rw[right_eq];by_cases hk:ks.length=0
 ·simp[node,h1,h2,hk,rights_none hk]
 ·simp[node,h1,h2,hk]
theorem right_3 (h:plain 3 t n ns=true):right (.mk 3 t n ns ks) false=(Tok.sel t&&decide (ks.length=0)):=by
 obtain ⟨h1,h2⟩:=plain_p (.inr (.inl rfl)) h;rw[right_eq];by_cases hk:ks.length=0
 ·simp[node,h1,h2,hk,rights_none hk]
 ·simp[node,h1,h2,hk]
theorem right_4 (h:plain 4 t n ns=true):right (.mk 4 t n ns ks) false=(Tok.isName t&&decide (ks.length=0)):=by
 obtain ⟨h1,h2⟩:=plain_p (.inr (.inr (.inl rfl))) h;rw[right_eq];by_cases hk:ks.length=0
 ·simp[node,h1,h2,hk,rights_none hk]
 ·simp[node,h1,h2,hk]
theorem right_5 (h:plain 5 t n ns=true):right (.mk 5 t n ns ks) false=(Tok.isName t&&decide (ks.length=1)&&rights false ks):=by obtain ⟨h1,h2⟩:=plain_p (by omega) h;rw[right_eq];simp[node,h1,h2]
def sendB (k:Int) (t:ByteArray) (n:Int) (ns:List ByteArray) (ks:List E) (r:Int):Bool:=
 decide (k=6)&&plain k t n ns&&Tok.sel t&&decide ((ks.length:Int)=r+Tok.countArgs t)&&rights false ks
theorem right_6 (hs:∀ s,Tok.sel s=decide (0<=Tok.countArgs s)) (h:plain 6 t n ns=true):right (.mk 6 t n ns ks) false=sendB 6 t n ns ks 1:=by
 obtain ⟨h1,h2⟩:=plain_p (by omega) h;rw[right_eq];unfold sendB;rw[h,hs];by_cases hk:(ks.length:Int)=Tok.countArgs t+1
 ·have e1:(ks.length:Int)=1+Tok.countArgs t:=by omega
  by_cases hc:0<=Tok.countArgs t
  ·have:0<ks.length:=by omega
   simp[node,h1,h2,hk,hc,this];intro hh;omega
  ·have:¬0<ks.length:=by omega
   simp[node,h1,h2,hk,hc,this]
 ·have e1:¬(ks.length:Int)=1+Tok.countArgs t:=by omega
  simp[node,h1,h2,hk,e1]
theorem msg_is (hs:∀ s,Tok.sel s=decide (0<=Tok.countArgs s)) (k:Int):msg (.mk k t n ns ks)=sendB k t n ns ks 0:=by
 unfold msg sendB;simp only[E.kind,E.num,E.names,E.text,E.kids,hs,Int.zero_add];by_cases h6:k=6
 ·subst h6
  rw[Bool.eq_iff_iff];by_cases hn:n=0
  ·by_cases hl:ns.length=0
   ·simp[plain,hn,hl]
    intro _;exact ⟨fun h=>⟨of_decide_eq_true h.1,of_decide_eq_true h.2⟩,fun h=>⟨decide_eq_true h.1,decide_eq_true h.2⟩⟩
   ·simp[plain,hn,hl]
  ·simp[plain,hn]
 ·simp[h6]
theorem right_7 (h:plain 7 t n ns=true):right (.mk 7 t n ns ks) false=(decide (3<=ks.length)&&headOk ks&&msgs (ks.drop 1)):=by
 obtain ⟨h1,h2,h3⟩:=plain_q (.inl rfl) h;rw[right_eq];have:tailOk ks=msgs (ks.drop 1):=by cases ks<;>rfl
 simp[node,h1,h2,h3,this];generalize msgs ks.tail=m;cases decide (3<=ks.length)<;>cases headOk ks<;>cases m<;>rfl
theorem right_8 (h:plain 8 t n ns=true):right (.mk 8 t n ns ks) false=(decide (0<=n)&&decide (n<=(ns.length:Int))&&ns.all Tok.isName&&rights true ks):=by have h1:=plain_8 h;rw[right_eq];by_cases h0:0<=n<;>by_cases h9:n<=(ns.length:Int)<;>simp[node,h1,h0,h9]
theorem right_9 (h:plain 9 t n ns=true):right (.mk 9 t n ns ks) true=(decide (ks.length=1)&&rights false ks):=by obtain ⟨h1,h2,h3⟩:=plain_q (.inr rfl) h;rw[right_eq];simp[node,h1,h2,h3]
theorem right_o {k:Int} (h1:¬k=1) (h2:¬k=2) (h3:¬k=3) (h4:¬k=4) (h5:¬k=5) (h6:¬k=6) (h7:¬k=7) (h8:¬k=8):right (.mk k t n ns ks) false=false:=by
 rw[right_eq];by_cases h9:k=9
 ·simp[h9]
 ·simp[node,h1,h2,h3,h4,h5,h6,h7,h8,h9]
theorem rights_last (ks:List E) (e:E):rights true (ks++[e])=(rights false ks&&right e true):=by
 induction ks with
 | nil=>simp[rights]
 | cons x xs ih=>
  rw[List.cons_append,rights,rights,ih,value_is x];have:(xs++[e]).isEmpty=false:=by cases xs<;>rfl
  rw[this];by_cases h9:x.kind=9<;>cases right x true<;>cases rights false xs<;>cases right e true<;>simp[h9]
end
end Go.Proofs.YtbigfeblomfflaaGreatDoor.Rights
