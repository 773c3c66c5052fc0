/-
  zbv SpecTree SpecTree2 TreeBox Dfs Pairs SpecEqual ImplLike PtrMap Nd TreeTo
-/
import Derived.Test.YtlmhgeanknhcfaaGreatDoorB2
set_option maxHeartbeats 1000000
namespace Go.Proofs.YtlmhgeanknhcfaaGreatDoor
namespace zbv
open Go.RowKit
open Strs Tree
def after (left n:Nat):Int:=if n<=left then ((left-n:Nat):Int) else -1
theorem zut {left n:Nat} (h:n<=left):after left n=((left-n:Nat):Int):=if_pos h
theorem zn0 {left n:Nat} (h:left<n):after left n = -1:=if_neg (Nat.not_le.2 h)
theorem yc4 (a1 a2:Option Addr) (c1 c2:Nat) (w:World):
  Calls Tryz.prog 33 #[.slice a1 0 c1,.slice a2 0 c2] w fun e w'=>e=.returned (.bool true)/\Below w.heap.size w w':=by
 go_enter Tryz.func33,Tryz.ntmps33;go_wp2_with fail
 refine wp_loop_rounds 1 ?_;rw[rounds_succ];go_wp2_with fail
 go_ret;exact ⟨rfl,zB _ _⟩
theorem ybl (b1 o1 c1 b2 o2 c2 n:Nat) (xs:List ByteArray) (w:World) (hn:xs.length=n) (hm:n<=maxLen)
  (h1:∀ j (h:j<xs.length),w.cell? ⟨b1,o1+j,none⟩=some (.string xs[j])) (h2:∀ j (h:j<xs.length),w.cell? ⟨b2,o2+j,none⟩=some (.string xs[j])):
  Calls Tryz.prog 33 #[.slice (some ⟨b1,o1,none⟩) n c1,.slice (some ⟨b2,o2,none⟩) n c2] w fun e w'=>e=.returned (.bool true)/\Below w.heap.size w w':=by
 unfold maxLen at hm;have H1:=zH h1;clear h1;have H2:=zH h2;clear h2;have HN:=zH hn;clear hn;go_enter Tryz.func33,Tryz.ntmps33;go_wp2_with fail
 go_loopw [5] (fun j wr=>∃ i:Nat,i<=n/\j=.int .i64 i/\Below w.heap.size w wr) (fun j _=>n-(intOf j).toNat)
 case atStart=>exact ⟨0,by omega,rfl,zB _ _⟩
 case round=>
  obtain ⟨i,hi,rfl,hbw⟩:=hrel;by_cases hlt:i<n
  ·have hil:i<xs.length:=by rw[HN.out];exact hlt
   have hA:=H1.out i hil;have hB:=H2.out i hil;have hc1:wr.cell? ⟨b1,o1+i,none⟩=some (.string xs[i]):=cell_keep hbw hA;have hc2:wr.cell? ⟨b2,o2+i,none⟩=some (.string xs[i]):=cell_keep hbw hB;clear hA hB;generalize xs[i]=s at *;go_wp2_with fail
   go_quiet (fail)
   go_wp2_with fail
   go_roundw
   case rel=>exact ⟨i+1,by omega,by go_num,below_drewN hbw _⟩
   case measure=>simp[intOf];omega
  ·go_wp2_with fail
   go_ret;exact ⟨rfl,hbw⟩
theorem z3c {lo1 lo2:Nat} {w:World} {v1 v2:Value} {xs:List ByteArray} (h1:zbv lo1 w xs v1) (h2:zbv lo2 w xs v2):
  Calls Tryz.prog 33 #[v1,v2] w fun e w'=>e=.returned (.bool true)/\Below w.heap.size w w':=by
 obtain ⟨a1,c1,rfl,hm,_,hc1⟩:=h1;obtain ⟨a2,c2,rfl,_,_,hc2⟩:=h2;by_cases hp:0<xs.length
 ·obtain ⟨b1,o1,rfl,_,hd1⟩:=hc1 hp
  obtain ⟨b2,o2,rfl,_,hd2⟩:=hc2 hp;exact ybl b1 o1 c1 b2 o2 c2 xs.length xs w rfl (Nat.le_trans hm.1 hm.2) hd1 hd2
 ·rw[show xs.length=0 by omega]
  exact yc4 a1 a2 c1 c2 w
end zbv
namespace SpecTree
open Go.RowKit
open Strs Tree zbv
structure Arg (w:World) (vn vk:Value) (wr:World):Prop where
 below:Below w.heap.size w wr
 size:w.heap.size+1<=wr.heap.size
 a3:wr.cell? ⟨w.heap.size,3,none⟩=some vn
 a4:wr.cell? ⟨w.heap.size,4,none⟩=some vk
theorem Arg.step {w wr w':World} {vn vk:Value} (h:Arg w vn vk wr) (hb:Below wr.heap.size wr w'):Arg w vn vk w':=
 ⟨h.below.trans (hb.mono (by have:=h.size;omega)),Nat.le_trans h.size hb.size,cell_keep hb h.a3,cell_keep hb h.a4⟩
theorem z6o (w:World) (k:Int) (t:ByteArray) (n:Int) (vn vk:Value) (T:TypeId):Arg w vn vk (w.alloc (Obj.cells #[Value.int IntKind.i64 k,Value.string t,Value.int IntKind.i64 n,vn,vk] T)):=by
 refine ⟨(zB _ _).alloc (zL _) _,by simp,?_,?_⟩
 all_goals go_simp
theorem yaw (a b:Nat) (w:World):
  Calls Tryz.prog 120 #[.int .i64 a,.int .i64 b] w fun r w'=>r=.returned (.int .i64 (max a b:Nat))/\w=w':=by
 by_cases h:(b:Int)<(a:Int)
 ·rw[show max a b=a by omega]
  go_enter Tryz.func120,Tryz.ntmps120;go_wp2_with fail
  go_ret;exact ⟨rfl,rfl⟩
 ·rw[show max a b=b by omega]
  go_enter Tryz.func120,Tryz.ntmps120;go_wp2_with fail
  go_ret;exact ⟨rfl,rfl⟩
theorem z0f:∀ e,∀ (lo:Nat) (w:World) (vn vk:Value),depth e<=4611686018427387904->zaw lo w e vn vk ->
  Calls Tryz.prog 69 #[.agg #[.int .i64 e.kind,.string e.text,.int .i64 e.num,vn,vk]] w fun r w'=>r=.returned (.int .i64 (depth e))/\Below w.heap.size w w':=by
 refine ind fun k t n ns ks ih=>?_
 intro lo w vn vk hz hnode;rw[zbn] at hnode;obtain ⟨-,-,-,-,hks⟩:=hnode;simp only[E.kind,E.text,E.num,E.kids] at *;obtain ⟨a,cap,rfl,hm,hc⟩:=hks;unfold maxLen at hm;have HS:Hid (depth (.mk k t n ns ks)=zel ks+1):=by show _=_;rw[depth]
 generalize depth (.mk k t n ns ks)=S at *;have HC:=zH hc;clear hc;have IH:=zH ih;clear ih;have HZ:=zH hz;clear hz;generalize hN:ks.length=N at *;have HN:=zH hN;clear hN;have HA:=zH (z6o w k t n vn (.slice a N cap) 25);go_enter Tryz.func69,Tryz.ntmps69;go_wp2_with fail
 go_loopw [3,4] (fun s j wr=>∃ i q:Nat,i<=N/\j=.int .i64 i/\zel (ks.take i)=q/\s=.int .i64 q/\Arg w vn (.slice a N cap) wr) (fun _ j _=>N-(intOf j).toNat)
 case atStart=>exact ⟨0,0,by omega,rfl,rfl,rfl,HA.out⟩
 case round=>
  obtain ⟨i,q,hi,rfl,hq,rfl,harg⟩:=hrel;have a4:=harg.a4;have HQ:=zH hq;clear hq;have AR:=zH harg;clear harg;by_cases hlt:i<N
  ·have hil:i<ks.length:=by rw[HN.out];exact hlt
   obtain ⟨b,off,rfl,hb,hr⟩:=HC.out (by have:=HN.out;omega);obtain ⟨xn,xk,d0,d1,d2,d3,d4,hnode⟩:=(row_iff ks off).1 hr i hil;have c0:=cell_keep AR.out.below d0;have c1:=cell_keep AR.out.below d1;have c2:=cell_keep AR.out.below d2;have c3:=cell_keep AR.out.below d3;have c4:=cell_keep AR.out.below d4;have hkz:=z19 ks i hil;have KI:=zH (IH.out _ (List.getElem_mem hil) lo _ xn xk (by have:=HZ.out;have:=HS.out;omega) (hnode.below AR.out.below))
   have HT:Hid (zel (ks.take (i+1))=max q (depth ks[i])):=by have:=zkl ks i hil;have:=HQ.out;show _=_;omega
   clear d0 d1 d2 d3 d4 hnode hr hkz;generalize ks[i]=e at *;generalize depth e=z at *;go_wp2_with fail
   refine KI.out.mono ?_;rintro r w1 ⟨rfl,hb1⟩;have AR1:=zH (AR.out.step hb1);clear c0 c1 c2 c3 c4 hb1 AR;go_wp2_with fail
   refine (yaw q z w1).mono ?_;rintro r w2 ⟨rfl,rfl⟩;go_wp2_with fail
   go_roundw
   case rel=>exact ⟨i+1,max q z,by omega,by go_num,HT.out,rfl,AR1.out⟩
   case measure=>simp[intOf];omega
  ·have hS:S=q+1:=by
    have h1:i=N:=by omega
    have h2:=HQ.out;rw[h1,List.take_of_length_le (by rw[HN.out];exact zL _)] at h2;rw[HS.out,h2]
   have hq2:q<=4611686018427387904:=by have:=HZ.out;omega
   have HSQ:=zH hS;clear hS;go_wp2_with fail
   go_ret;exact ⟨by rw[HSQ.out];rfl,AR.out.below⟩
end SpecTree
namespace SpecTree
open Go.RowKit
open Strs Tree zbv
theorem z2i (a b c:Int) (w:World):
  Calls Tryz.prog 146 #[.int .i64 a,.int .i64 b,.int .i64 c] w fun r w'=>r=.returned (.bool (decide (b<=a/\a<=c)))/\w=w':=by
 generalize hD:decide (b<=a/\a<=c)=D;have HD:=zH hD;clear hD;by_cases h1:b<=a
 ·by_cases h2:a<=c
  ·have hD:D=true:=by rw[<-HD.out];exact decide_eq_true ⟨h1,h2⟩
   subst hD;go_enter Tryz.func146,Tryz.ntmps146;go_wp2_with fail
   go_ret;exact ⟨rfl,rfl⟩
  ·have hD:D=false:=by rw[<-HD.out];exact decide_eq_false (fun h=>h2 h.2)
   subst hD;go_enter Tryz.func146,Tryz.ntmps146;go_wp2_with fail
   go_ret;exact ⟨rfl,rfl⟩
 ·have hD:D=false:=by rw[<-HD.out];exact decide_eq_false (fun h=>h1 h.1)
  subst hD;go_enter Tryz.func146,Tryz.ntmps146;go_wp2_with fail
  go_ret;exact ⟨rfl,rfl⟩
theorem z4b:∀ e,∀ (lo:Nat) (w:World) (vn vk:Value) (l:Nat),l<=1048576->zaw lo w e vn vk ->
  Calls Tryz.prog 68 #[.agg #[.int .i64 e.kind,.string e.text,.int .i64 e.num,vn,vk],.int .i64 l] w fun r w'=>r=.returned (.int .i64 (after l (size e)))/\Below w.heap.size w w':=by
 refine ind fun k t n ns ks ih=>?_
 intro lo w vn vk l hl hnode;rw[zbn] at hnode;obtain ⟨-,-,-,-,hks⟩:=hnode;simp only[E.kind,E.text,E.num,E.kids] at *;obtain ⟨a,cap,rfl,hm,hc⟩:=hks;unfold maxLen at hm;have HS:Hid (size (.mk k t n ns ks)=sizes ks+1):=by show _=_;rw[size]
 generalize size (.mk k t n ns ks)=S at *;have HC:=zH hc;clear hc;have IH:=zH ih;clear ih;generalize hN:ks.length=N at *;have HN:=zH hN;clear hN;have HA:=zH (z6o w k t n vn (.slice a N cap) 25);generalize hR:after l S=R;have HR:=zH hR;clear hR;by_cases h0:l=0
 ·subst h0
  have hR:R = -1:=by rw[<-HR.out];exact zn0 (by have:=HS.out;omega)
  subst hR;go_enter Tryz.func68,Tryz.ntmps68;go_wp2_with fail
  refine wp_loop_rounds 1 ?_;rw[rounds_succ];have a4:=HA.out.a4;by_cases hN0:0<N
  ·go_wp2_with fail
   go_ret;exact ⟨rfl,HA.out.below⟩
  ·go_wp2_with fail
   go_ret;exact ⟨rfl,HA.out.below⟩
 ·obtain ⟨l1,hl1⟩:∃ l1,l=l1+1:=⟨l-1,by omega⟩
  have e1:(l:Int)-1=(l1:Int):=by omega
  have HL1:=zH hl1;clear hl1;go_enter Tryz.func68,Tryz.ntmps68;go_wp2_with fail
  go_loopw [1,5] (fun s j wr=>∃ i:Nat,i<=N/\j=.int .i64 i/\s=.int .i64 (after l1 (sizes (ks.take i)))/\Arg w vn (.slice a N cap) wr) (fun _ j _=>N-(intOf j).toNat)
  case atStart=>exact ⟨0,by omega,rfl,by simp[after,sizes],HA.out⟩
  case round=>
   obtain ⟨i,hi,rfl,rfl,harg⟩:=hrel;have a4:=harg.a4;have AR:=zH harg;clear harg;by_cases hlt:i<N
   ·have hil:i<ks.length:=by rw[HN.out];exact hlt
    obtain ⟨b,off,rfl,hb,hr⟩:=HC.out (by have:=HN.out;omega);obtain ⟨xn,xk,d0,d1,d2,d3,d4,hnode⟩:=(row_iff ks off).1 hr i hil;have c0:=cell_keep AR.out.below d0;have c1:=cell_keep AR.out.below d1;have c2:=cell_keep AR.out.below d2;have c3:=cell_keep AR.out.below d3;have c4:=cell_keep AR.out.below d4;have HT:=zH (znf ks i hil);by_cases hle:sizes (ks.take i)<=l1
    ·rw[zut hle]
     have KI:=zH (IH.out _ (List.getElem_mem hil) lo _ xn xk (l1-sizes (ks.take i)) (by have:=HL1.out;omega) (hnode.below AR.out.below))
     have HV:Hid (after (l1-sizes (ks.take i)) (size ks[i])=after l1 (sizes (ks.take (i+1)))):=by
      show _=_
      rw[HT.out];unfold after
      split
      ·rw[if_pos (by omega)];congr 1;omega
      ·rw[if_neg (by omega)]
     clear d0 d1 d2 d3 d4 hnode hr hle;generalize ks[i]=e at *;generalize size e=z at *;generalize l1-sizes (ks.take i)=q at *;clear HT;rw[HV.out] at KI;generalize hVV:after l1 (sizes (ks.take (i+1)))=V at *;have HVV:=zH hVV;clear hVV;go_wp2_with fail
     refine KI.out.mono ?_;rintro r w1 ⟨rfl,hb1⟩;have AR1:=zH (AR.out.step hb1);clear c0 c1 c2 c3 c4 hb1 AR;go_wp2_with fail
     go_roundw
     case rel=>exact ⟨i+1,by omega,by go_num,by rw[HVV.out],AR1.out⟩
     case measure=>simp[intOf];omega
    ·rw[zn0 (by omega)]
     have hR:R = -1:=by rw[<-HR.out];have h3:=zsq ks i;exact zn0 (by have:=HS.out;have:=HL1.out;omega)
     subst hR;clear d0 d1 d2 d3 d4 hnode hr hle;go_wp2_with fail
     go_ret;exact ⟨rfl,AR.out.below⟩
   ·have hR:R=after l1 (sizes (ks.take i)):=by
     have h1:i=N:=by omega
     rw[h1,List.take_of_length_le (by rw[HN.out];exact zL _),<-HR.out,HS.out,HL1.out];unfold after
     split
     ·rw[if_pos (by omega)];congr 1;omega
     ·rw[if_neg (by omega)]
    generalize after l1 (sizes (ks.take i))=V at *;subst hR;go_wp2_with fail
    go_ret;exact ⟨rfl,AR.out.below⟩
theorem z0v (s:ByteArray) (w:World) (hs:s.size<=maxLen):
  Calls Tryz.prog 150 #[.string s] w fun r w'=>r=.returned (.bool (isText s))/\w=w':=by
 unfold maxLen at hs;generalize hD:isText s=D;have HD:=zH hD;clear hD;go_enter Tryz.func150,Tryz.ntmps150;go_wp2_with fail
 go_loop [3] (fun j=>∃ i:Nat,i<=s.size/\j=.int .i64 i/\Hid (∀ k (h:k<s.size),k<i->32<=s[k].toNat/\s[k].toNat<=126)) (fun j=>s.size-(intOf j).toNat)
 case atStart=>exact ⟨0,by omega,rfl,fun k _ h=>by omega⟩
 case round=>
  obtain ⟨i,hi,rfl,HR⟩:=hrel;by_cases hlt:i<s.size
  ·have hlt':i<s.data.toList.length:=by rw[Array.length_toList];exact hlt
   have HX:Hid (s.data.toList[i]'hlt'=s[i]'hlt):=rfl
   have HNO:Hid (¬(32<=(s[i]'hlt).toNat/\(s[i]'hlt).toNat<=126)->D=false):=by
    intro h;rw[<-HD.out];unfold isText
    rw[show s.data.toList.all (fun b=>decide (32<=b.toNat)&&decide (b.toNat<=126))=false by rw[List.all_eq_false];exact ⟨s[i]'hlt,List.getElem_mem hlt',by simpa using h⟩]
    rfl
   by_cases h1:((s[i]'hlt).toNat:Int)<32
   ·have hD:D=false:=HNO.out (by omega)
    subst hD;go_wp2_with fail
    go_ret;exact ⟨rfl,rfl⟩
   ·by_cases h2:(126:Int)<((s[i]'hlt).toNat:Int)
    ·have hD:D=false:=HNO.out (by omega)
     subst hD;go_wp2_with fail
     go_ret;exact ⟨rfl,rfl⟩
    ·have HN:Hid (∀ k (h:k<s.size),k<i+1->32<=s[k].toNat/\s[k].toNat<=126):=by
      intro k hk hki;by_cases e:k=i
      ·subst e;omega
      ·exact HR.out k hk (by omega)
     clear HNO HX;go_wp2_with fail
     go_round
     case rel=>exact ⟨i+1,by omega,by go_num,HN⟩
     case measure=>simp[intOf];omega
  ·have HA:Hid (s.data.toList.all (fun b=>decide (32<=b.toNat)&&decide (b.toNat<=126))=true):=by
    show _=_
    rw[List.all_eq_true];intro b hb;obtain ⟨k,hk,rfl⟩:=List.getElem_of_mem hb;rw[Array.length_toList] at hk;have hk2:k<s.size:=hk;have h4:=HR.out k hk2 (by omega);simp only[Bool.and_eq_true,decide_eq_true_eq];exact h4
   by_cases h3:(s.size:Int)<=40
   ·have hD:D=true:=by rw[<-HD.out];unfold isText;rw[HA.out,decide_eq_true (by omega)];rfl
    subst hD;go_wp2_with fail
    go_ret;exact ⟨rfl,rfl⟩
   ·have hD:D=false:=by rw[<-HD.out];unfold isText;rw[HA.out,decide_eq_false (by omega)];rfl
    subst hD;go_wp2_with fail
    go_ret;exact ⟨rfl,rfl⟩
end SpecTree
namespace TreeBox
open Go.RowKit
open Strs Tree
structure Cells (B:Nat) (k:Int) (t:ByteArray) (n:Int) (vn vk:Value) (wr:World):Prop where
 size:B<wr.heap.size
 a0:wr.cell? ⟨B,0,none⟩=some (.int .i64 k)
 a1:wr.cell? ⟨B,1,none⟩=some (.string t)
 a2:wr.cell? ⟨B,2,none⟩=some (.int .i64 n)
 a3:wr.cell? ⟨B,3,none⟩=some vn
 a4:wr.cell? ⟨B,4,none⟩=some vk
theorem Cells.step {B:Nat} {k:Int} {t:ByteArray} {n:Int} {vn vk:Value} {wr w':World} (h:Cells B k t n vn vk wr) (hb:Below wr.heap.size wr w'):Cells B k t n vn vk w':=
 ⟨Nat.lt_of_lt_of_le h.size hb.size,cell_keep hb h.a0,cell_keep hb h.a1,cell_keep hb h.a2,cell_keep hb h.a3,cell_keep hb h.a4⟩
theorem zae (w:World) (k:Int) (t:ByteArray) (n:Int) (vn vk:Value) (T:TypeId):Cells w.heap.size k t n vn vk (w.alloc (Obj.cells #[Value.int IntKind.i64 k,Value.string t,Value.int IntKind.i64 n,vn,vk] T)):=by
 refine ⟨by simp,?_,?_,?_,?_,?_⟩
 all_goals go_simp
end TreeBox
end Go.Proofs.YtlmhgeanknhcfaaGreatDoor
namespace Go.Proofs.YtlmhgeanknhcfaaGreatDoor.Dfs
open Tree
theorem zqq (ks:List E) (i:Nat) (h:i<ks.length):sizes (ks.drop i)=size ks[i]+sizes (ks.drop (i+1)):=by rw[List.drop_eq_getElem_cons h,sizes]
theorem size_mk (e:E):size e=sizes e.kids+1:=by cases e with|mk k t n ns ks=>rw[size];rfl
theorem z8s (e:E):depth e=zel e.kids+1:=by cases e with|mk k t n ns ks=>rw[depth];rfl
theorem zyv (e:E):0<size e:=by rw[size_mk];omega
theorem yc5 (e:E) (i:Nat) (h:i<e.kids.length):size e.kids[i]<size e:=by have:=z9o e.kids i h;rw[size_mk e];omega
def ext (e:E):Value:=.agg #[.int .i64 (size e),.int .i64 (depth e)]
section
variable {A:Type} (N:A->Prop) (T:A->E) (kid:A->Nat->A) (root:A) (M:A->Option Value)
def zya (x:A):Prop:=N x/\M x=some (ext (T x))
def Rest:A->List (A×Nat)->Prop
 | c,[]=>c=root
 | c,(a,i)::q=>N a/\i<(T a).kids.length/\c=kid a i/\(∀ k,k<i->zya N T M (kid a k))/\Rest a q
def Inv (q:List (A×Nat)):Prop:=
 (∀ x v,M x=some v->zya N T M x\/∃ i,(x,i)∈q) /\
 match q with
 | []=>zya N T M root
 | (a,i)::q=>N a/\i<=(T a).kids.length/\(∀ k,k<i->zya N T M (kid a k))/\∃ p,Rest N T kid root M a p/\q=p.map fun x=>(x.1,x.2+1)
def mu:List (A×Nat)->Nat
 | []=>0
 | (a,i)::q=>1+2*sizes ((T a).kids.drop i)+mu q
variable {N T kid root M}
def Kids (N:A->Prop) (T:A->E) (kid:A->Nat->A):Prop:=∀ a i,N a->i<(T a).kids.length->N (kid a i)/\T (kid a i)=(T a).kids[i]!
theorem zzm (H:Kids N T kid) {a:A} {i:Nat} (ha:N a) (hi:i<(T a).kids.length):size (T (kid a i))<size (T a):=by rw[(H a i ha hi).2,getElem!_pos _ i hi];exact yc5 _ _ hi
theorem zfh (H:Kids N T kid):∀ (q:List (A×Nat)) (c:A),Rest N T kid root M c q->size (T c)+q.length<=size (T root)/\∀ x∈q,size (T c)<size (T x.1)
 | [],c,h=>by have h':c=root:=h;subst h';exact ⟨by simp,fun x hx=>by cases hx⟩
 | (a,i)::q,c,h=>by
  obtain ⟨h1,h2,rfl,_,h5⟩:=h;have h6:=zzm H h1 h2;obtain ⟨h7,h8⟩:=zfh H q a h5;refine ⟨by simp;omega,fun x hx=>?_⟩
  rcases List.mem_cons.1 hx with rfl|hx
  ·exact h6
  ·have:=h8 x hx;omega
theorem yaz (H:Kids N T kid) {a:A} {i:Nat} {q:List (A×Nat)} (h:Inv N T kid root M ((a,i)::q)):q.length+1<=size (T root):=by obtain ⟨_,h1,h2,h3,p,h4,rfl⟩:=h;have:=(zfh H p a h4).1;have:=zyv (T a);simp;omega
theorem z95 (H:Kids N T kid) {a:A} {i:Nat} {q:List (A×Nat)} (h:Inv N T kid root M ((a,i)::q)):size (T a)<=size (T root):=by obtain ⟨_,h1,h2,h3,p,h4,rfl⟩:=h;have:=(zfh H p a h4).1;omega
theorem zyu [DecidableEq A] {x c:A} {v:Value} (hv:x=c->N c->v=ext (T c)) (h:zya N T M x):zya N T (fun y=>if y=c then some v else M y) x:=by
 refine ⟨h.1,?_⟩;by_cases e:x=c
 ·subst e;simp[hv rfl h.1]
 ·simp[e,h.2]
theorem zok {M':A->Option Value} (hm:∀ x,zya N T M x->zya N T M' x):∀ (q:List (A×Nat)) (c:A),Rest N T kid root M c q->Rest N T kid root M' c q
 | [],_,h=>h
 | (a,_)::q,_,h=>⟨h.1,h.2.1,h.2.2.1,fun k hk=>hm _ (h.2.2.2.1 k hk),zok hm q a h.2.2.2.2⟩
theorem z6g [DecidableEq A] {v:Value} (hN:N root) (hM:M=fun y=>if y=root then some v else none):Inv N T kid root M [(root,0)]:=by
 subst hM;refine ⟨fun x v hx=>?_,hN,Nat.zero_le _,fun k hk=>by omega,[],rfl,rfl⟩
 by_cases e:x=root
 ·subst e;exact .inr ⟨0,by simp⟩
 ·simp[e] at hx
theorem yax [DecidableEq A] {a:A} {i:Nat} {q:List (A×Nat)} (h:Inv N T kid root M ((a,i)::q)) (hi:i=(T a).kids.length):
  (∀ k,k<(T a).kids.length->M (kid a k)=some (ext (T (kid a k))))/\Inv N T kid root (fun y=>if y=a then some (ext (T a)) else M y) q/\mu T q<mu T ((a,i)::q):=by
 obtain ⟨h0,h1,h2,h3,p,h4,rfl⟩:=h;refine ⟨fun k hk=>(h3 k (by omega)).2,⟨fun x v hx=>?_,?_⟩,by simp only[mu];omega⟩
 ·by_cases e:x=a
  ·subst e;exact .inl ⟨h1,by simp⟩
  ·simp only[e,if_false] at hx
   rcases h0 x v hx with hd|⟨j,hj⟩
   ·exact .inl (zyu (fun _ _=>rfl) hd)
   ·rcases List.mem_cons.1 hj with hj|hj
    ·cases hj;exact absurd rfl e
    ·exact .inr ⟨j,hj⟩
 ·have hdone:∀ x,zya N T M x->zya N T (fun y=>if y=a then some (ext (T a)) else M y) x:=fun x hx=>zyu (fun _ _=>rfl) hx
  cases p with
  | nil=>have h4':a=root:=h4;subst h4';exact ⟨h1,by simp⟩
  | cons y p=>
   obtain ⟨b,j⟩:=y;obtain ⟨g1,g2,g3,g4,g5⟩:=h4;refine ⟨g1,g2,fun k hk=>?_,p,zok hdone p b g5,rfl⟩
   by_cases e:k=j
   ·subst e;rw[<-g3];exact ⟨h1,by simp⟩
   ·exact hdone _ (g4 k (by omega))
theorem z9n [DecidableEq A] (H:Kids N T kid) {a:A} {i:Nat} {q:List (A×Nat)} {v:Value} (h:Inv N T kid root M ((a,i)::q)) (hi:i<(T a).kids.length) (hM:M (kid a i)=none):
  Inv N T kid root (fun y=>if y=kid a i then some v else M y) ((kid a i,0)::(a,i+1)::q)/\mu T ((kid a i,0)::(a,i+1)::q)<mu T ((a,i)::q):=by
 obtain ⟨h0,h1,h2,h3,p,h4,rfl⟩:=h;obtain ⟨k1,k2⟩:=H a i h1 hi
 have hdone:∀ x,zya N T M x->zya N T (fun y=>if y=kid a i then some v else M y) x:=fun x hx=>by
  have:x≠kid a i:=fun e=>by subst e;have h9:=hx.2;rw[hM] at h9;cases h9
  exact ⟨hx.1,by simp[this,hx.2]⟩
 refine ⟨⟨fun x u hx=>?_,k1,Nat.zero_le _,fun k hk=>by omega,(a,i)::p,⟨h1,hi,rfl,fun k hk=>hdone _ (h3 k hk),zok hdone p a h4⟩,by simp⟩,?_⟩
 ·by_cases e:x=kid a i
  ·subst e;exact .inr ⟨0,by simp⟩
  ·simp only[e,if_false] at hx
   rcases h0 x u hx with hd|⟨j,hj⟩
   ·exact .inl (hdone _ hd)
   ·rcases List.mem_cons.1 hj with hj|hj
    ·cases hj;exact .inr ⟨i+1,by simp⟩
    ·exact .inr ⟨j,by simp[hj]⟩
 ·simp only[mu,k2,List.drop_zero]
  rw[zqq _ i hi,getElem!_pos _ i hi,size_mk (T a).kids[i]];omega
theorem z8t (H:Kids N T kid) {a:A} {i:Nat} {q:List (A×Nat)} {v:Value} (h:Inv N T kid root M ((a,i)::q)) (hi:i<(T a).kids.length) (hM:M (kid a i)=some v):
  v=ext (T (kid a i))/\Inv N T kid root M ((a,i+1)::q)/\mu T ((a,i+1)::q)<mu T ((a,i)::q):=by
 obtain ⟨h0,h1,h2,h3,p,h4,rfl⟩:=h;have hs:=zzm H h1 hi
 have hd:zya N T M (kid a i):=by
  rcases h0 _ v hM with hd|⟨j,hj⟩
  ·exact hd
  ·rcases List.mem_cons.1 hj with hj|hj
   ·simp only[Prod.mk.injEq] at hj;rw[hj.1] at hs;omega
   ·obtain ⟨y,hy,hyj⟩:=List.mem_map.1 hj
    have:=(zfh H p a h4).2 y hy;simp only[Prod.mk.injEq] at hyj;rw[hyj.1] at this;omega
 refine ⟨by have h9:=hd.2;rw[hM] at h9;exact Option.some.inj h9,⟨fun x u hx=>?_,h1,hi,fun k hk=>?_,p,h4,rfl⟩,?_⟩
 ·rcases h0 x u hx with hd|⟨j,hj⟩
  ·exact .inl hd
  ·rcases List.mem_cons.1 hj with hj|hj
   ·cases hj;exact .inr ⟨i+1,by simp⟩
   ·exact .inr ⟨j,by simp[hj]⟩
 ·by_cases e:k=i
  ·subst e;exact hd
  ·exact h3 k (by omega)
 ·simp only[mu]
  rw[zqq _ i hi];have:=zyv (T a).kids[i];omega
end
end Go.Proofs.YtlmhgeanknhcfaaGreatDoor.Dfs
namespace Go.Proofs.YtlmhgeanknhcfaaGreatDoor.Pairs
open Tree Dfs
section
variable {A:Type} (N:A->Prop) (T:A->E) (kid:A->Nat->A) (root:A×A) (met:A×A->Prop)
variable {N T kid root met}
end
end Go.Proofs.YtlmhgeanknhcfaaGreatDoor.Pairs
namespace Go.Proofs.YtlmhgeanknhcfaaGreatDoor
namespace SpecEqual
open Go.RowKit
open Strs Tree TreeBox
end SpecEqual
namespace ImplLike
open Go.RowKit
open Strs Tree zgy Pairs
def zge (w w':World):Prop:=∃ m,w'=w.drewN m
theorem zge.below {w w':World} (h:zge w w'):Below w.heap.size w w':=by obtain ⟨m,rfl⟩:=h;exact ⟨rfl,rfl,rfl,zL _,fun _ _=>rfl⟩
end ImplLike
namespace PtrMap
open Go.RowKit
open Strs Tree PMap zgy
def zwo (a:Addr):Value:=.pointer (some a)
theorem zp6:(Tryz.prog.info? 25).map (fun i=>i.size)=some 5:=by kernel_rfl
theorem yfd (w:World):(zeroValue 113).run Tryz.prog w=.ok (.agg #[.int .i64 0,.int .i64 0]) w:=by kernel_rfl
theorem law {w0 w:World} (hb:Below w0.heap.size w0 w):Law Tryz.prog zwo (zix w0) 145 144 113 (.agg #[.int .i64 0,.int .i64 0]) w:=by
 refine ⟨Tryz.underlying145,⟨_,Tryz.underlying144,fun a b=>rfl⟩,fun em k _=>?_,fun k k' hk hk'=>?_,fun k _=>?_,yfd w⟩
 ·show (Instr.checkKey em (9999+1) 144 (.pointer (some k))).run Tryz.prog w=_
  unfold Instr.checkKey;simp only[Sem.run_bind,run_underlying Tryz.underlying144,Result.andThen];rfl
 ·obtain ⟨i,hi,hz⟩:=Option.map_eq_some_iff.1 zp6
  exact z5v Tryz.underlying144 hi (by rw[hz];decide) (hk.keep hb) (hk'.keep hb) 9999
 ·have h:Instr.sameBits 10000 (zwo k) (zwo k)=true:=by
   show (some k==some k)=true
   simp
  simp only[Instr.keyThatStays,h,if_true];rfl
end PtrMap
namespace ImplMeas
open Go.RowKit
open Strs Tree PMap zgy Dfs
def N0 (w:World) (x:Addr):Prop:=∃ e,Nd w x e
theorem z2w {w:World} {x:Addr} (h:N0 w x):Nd w x (zd3 w x):=by obtain ⟨e,he⟩:=h;rw[he.tree];exact he
theorem z3l (w:World):Dfs.Kids (N0 w) (zd3 w) (kid w):=by intro a i ha hi;have h:=(z2w ha).zrd hi;exact ⟨⟨_,h⟩,by rw[h.tree,getElem!_pos _ i hi]⟩
theorem z6m (w:World) (u v:Value) (t:TypeId):∀ (j:Nat) (x:Value),[u,v][j]?=some x->(w.alloc (.cells #[u,v] t)).cell? ((⟨w.heap.size,0,none⟩:Addr).add j)=some x:=by
 intro j x hj
 match j,hj with
 | 0,hj=>simp at hj;subst hj;simp[Addr.add]
 | 1,hj=>simp at hj;subst hj;simp[Addr.add]
end ImplMeas
namespace TreeTo
open Go.RowKit
open Strs Tree zbv zgy
def z4k (lo:Nat) (w:World) (e:E) (v:Value):Prop:=∃ a b c d vk,v=.agg #[a,b,c,d,vk]/\zgy lo w e vk
theorem z4k.below {lo:Nat} {w w':World} {e:E} {v:Value} (h:z4k lo w e v) (hb:Below w.heap.size w w'):z4k lo w' e v:=by obtain ⟨a,b,c,d,vk,rfl,h⟩:=h;exact ⟨a,b,c,d,vk,rfl,zgy.keep (zL _) (zib hb) _ _ h⟩
structure Box (w:World) (k:Int) (t:ByteArray) (n:Int) (vk x y:Value) (wr:World):Prop where
 below:Below w.heap.size w wr
 size:w.heap.size+3<=wr.heap.size
 a4:wr.cell? ⟨w.heap.size,4,none⟩=some vk
 b0:wr.cell? ⟨w.heap.size+1,0,none⟩=some (.int .i64 0)
 b1:wr.cell? ⟨w.heap.size+1,1,none⟩=some (.string ⟨#[]⟩)
 b2:wr.cell? ⟨w.heap.size+1,2,none⟩=some (.int .i64 0)
 b3:wr.cell? ⟨w.heap.size+1,3,none⟩=some (.slice none 0 0)
 b4:wr.cell? ⟨w.heap.size+1,4,none⟩=some (.slice none 0 0)
 c0:wr.cell? ⟨w.heap.size+1+1,0,none⟩=some (.int .i64 k)
 c1:wr.cell? ⟨w.heap.size+1+1,1,none⟩=some (.string t)
 c2:wr.cell? ⟨w.heap.size+1+1,2,none⟩=some (.int .i64 n)
 c3:wr.cell? ⟨w.heap.size+1+1,3,none⟩=some x
 c4:wr.cell? ⟨w.heap.size+1+1,4,none⟩=some y
 fb:∀ o,wr.frozen? ⟨w.heap.size+1,o,none⟩=false
 fc:∀ o,wr.frozen? ⟨w.heap.size+1+1,o,none⟩=false
end TreeTo
end Go.Proofs.YtlmhgeanknhcfaaGreatDoor
