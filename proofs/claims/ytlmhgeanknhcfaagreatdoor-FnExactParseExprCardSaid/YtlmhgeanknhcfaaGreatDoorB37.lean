/-
  ImplPlain Rights ImplVals
-/
import Derived.Test.YtlmhgeanknhcfaaGreatDoorB36
import Derived.Test.YtlmhgeanknhcfaaGreatDoorB13
import Derived.Lib.QuietBelow
set_option maxHeartbeats 4000000
set_option maxRecDepth 10000
namespace Go.Proofs.YtlmhgeanknhcfaaGreatDoor
namespace ImplPlain
open Go.RowKit
open Strs Tree zgy ImplLike
def plain (k:Int) (t:ByteArray) (n:Int) (ns:List ByteArray):Bool:=
 if k=1 then decide (t.size=0)&&decide (ns.length=0)
 else if k=2\/k=3\/k=4\/k=5\/k=6 then decide (n=0)&&decide (ns.length=0)
 else if k=7\/k=9 then decide (t.size=0)&&decide (n=0)&&decide (ns.length=0)
 else if k=8 then decide (t.size=0)
 else false
theorem z6w (t:ByteArray):(!t.toList.isEmpty)=!(decide (t.size=0)):=by
 by_cases h:t.size=0
 ·rw[SpecNode.zpn h,ByteArray.toList_eq];rfl
 ·rw[SpecNode.zhr h];simp[h]
theorem zvc {w:World} {a:Addr} {e:E} (h:Nd w a e):
  Calls Tryz.prog 128 #[.pointer (some a)] w fun r w'=>r=.returned (.bool (plain e.kind e.text e.num e.names))/\zge w w':=by
 obtain ⟨b,o,vn,x,cap,rfl,c0,c1,c2,c3,c4,hm,hm2,hx,-,-,-,-⟩:=h.see;clear h;obtain ⟨k,t,n,ns,ks⟩:=e;simp only[E.kind,E.text,E.num,E.names,E.kids] at *;obtain ⟨x3,p3,rfl,hm3,-⟩:=hx;unfold maxLen at hm2 hm3;generalize hD:plain k t n ns=D;have HD:=zH hD;clear hD;go_enter Tryz.func128,Tryz.ntmps128;go_wp2_with fail
 go_quiet (fail)
 have hD2:D=(if k=1 then !(!t.toList.isEmpty)&&!(decide (0<ns.length)) else if k=2\/k=3\/k=4\/k=5\/k=6 then !(n != 0)&&!(decide (0<ns.length)) else if k=7\/k=9 then !(!t.toList.isEmpty)&&!(n != 0)&&!(decide (0<ns.length)) else if k=8 then !(!t.toList.isEmpty) else false):=by
  have e1:(!(n != 0))=decide (n=0):=by by_cases h:n=0<;>simp[h]
  have e2:(!(decide (0<ns.length)))=decide (ns.length=0):=by by_cases h:ns.length=0<;>simp[h]<;>omega
  rw[<-HD.out,z6w,e1,e2,Bool.not_not];rfl
 generalize (!t.toList.isEmpty)=tb at *;generalize (n != 0)=nb at *;generalize decide (0<ns.length)=lb at *;generalize ns.length=L at *;have HD2:=zH hD2;clear hD2 HD;by_cases h1:k=1
 case pos=>
  subst h1;have hv:D=(!tb&&!lb):=by rw[HD2.out];simp
  have HV:=zH hv;clear hv HD2;cases tb<;>cases lb
  all_goals
   go_wp2_with fail
   go_ret;exact ⟨by rw[HV.out];rfl,_,rfl⟩
 have b1:(k==1)=false:=by rw[beq_eq_false_iff_ne];exact h1
 by_cases h2:k=2
 case pos=>
  subst h2;have hv:D=(!nb&&!lb):=by rw[HD2.out];simp
  have HV:=zH hv;clear hv HD2;cases nb<;>cases lb
  all_goals
   go_wp2_with fail
   go_ret;exact ⟨by rw[HV.out];rfl,_,rfl⟩
 have b2:(k==2)=false:=by rw[beq_eq_false_iff_ne];exact h2
 by_cases h3:k=3
 case pos=>
  subst h3;have hv:D=(!nb&&!lb):=by rw[HD2.out];simp
  have HV:=zH hv;clear hv HD2;cases nb<;>cases lb
  all_goals
   go_wp2_with fail
   go_ret;exact ⟨by rw[HV.out];rfl,_,rfl⟩
 have b3:(k==3)=false:=by rw[beq_eq_false_iff_ne];exact h3
 by_cases h4:k=4
 case pos=>
  subst h4;have hv:D=(!nb&&!lb):=by rw[HD2.out];simp
  have HV:=zH hv;clear hv HD2;cases nb<;>cases lb
  all_goals
   go_wp2_with fail
   go_ret;exact ⟨by rw[HV.out];rfl,_,rfl⟩
 have b4:(k==4)=false:=by rw[beq_eq_false_iff_ne];exact h4
 by_cases h5:k=5
 case pos=>
  subst h5;have hv:D=(!nb&&!lb):=by rw[HD2.out];simp
  have HV:=zH hv;clear hv HD2;cases nb<;>cases lb
  all_goals
   go_wp2_with fail
   go_ret;exact ⟨by rw[HV.out];rfl,_,rfl⟩
 have b5:(k==5)=false:=by rw[beq_eq_false_iff_ne];exact h5
 by_cases h6:k=6
 case pos=>
  subst h6;have hv:D=(!nb&&!lb):=by rw[HD2.out];simp
  have HV:=zH hv;clear hv HD2;cases nb<;>cases lb
  all_goals
   go_wp2_with fail
   go_ret;exact ⟨by rw[HV.out];rfl,_,rfl⟩
 have b6:(k==6)=false:=by rw[beq_eq_false_iff_ne];exact h6
 by_cases h7:k=7
 case pos=>
  subst h7;have hv:D=(!tb&&!nb&&!lb):=by rw[HD2.out];simp
  have HV:=zH hv;clear hv HD2;cases tb<;>cases nb<;>cases lb
  all_goals
   go_wp2_with fail
   go_ret;exact ⟨by rw[HV.out];rfl,_,rfl⟩
 have b7:(k==7)=false:=by rw[beq_eq_false_iff_ne];exact h7
 by_cases h9:k=9
 case pos=>
  subst h9;have hv:D=(!tb&&!nb&&!lb):=by rw[HD2.out];simp
  have HV:=zH hv;clear hv HD2;cases tb<;>cases nb<;>cases lb
  all_goals
   go_wp2_with fail
   go_ret;exact ⟨by rw[HV.out];rfl,_,rfl⟩
 have b9:(k==9)=false:=by rw[beq_eq_false_iff_ne];exact h9
 by_cases h8:k=8
 case pos=>
  subst h8;have hv:D=(!tb):=by rw[HD2.out];simp
  have HV:=zH hv;clear hv HD2;cases tb
  all_goals
   go_wp2_with fail
   go_ret;exact ⟨by rw[HV.out];rfl,_,rfl⟩
 have b8:(k==8)=false:=by rw[beq_eq_false_iff_ne];exact h8
 have hv:D=false:=by rw[HD2.out];simp[h1,h2,h3,h4,h5,h6,h7,h8,h9]
 subst hv;clear HD2 h1 h2 h3 h4 h5 h6 h7 h8 h9;go_wp2_with fail
 go_ret;exact ⟨rfl,_,rfl⟩
end ImplPlain
end Go.Proofs.YtlmhgeanknhcfaaGreatDoor
namespace Go.Proofs.YtlmhgeanknhcfaaGreatDoor.Rights
open Tree ImplPlain
theorem right_eq (k:Int) (t:ByteArray) (n:Int) (ns:List ByteArray) (ks:List E) (st:Bool):
  right (.mk k t n ns ks) st=(node k t n ns ks.length (zhv ks)&&(decide (k≠9)||st)&&(if k=7 then znt ks else zc7 (decide (k=8)) ks)):=by rw[right]
theorem zyo (e:E):right e false=(right e true&&decide (e.kind≠9)):=by
 obtain ⟨k,t,n,ns,ks⟩:=e;rw[right_eq,right_eq];simp only[E.kind];by_cases h:k=9
 ·simp[h]
 ·simp[h]
theorem z2h {e:E} (h:¬e.kind=9):right e true=right e false:=by rw[zyo];simp[h]
theorem z4s {ks:List E} (h:ks.length=0):ks=[]:=List.eq_nil_of_length_eq_zero h
theorem zet {k:Int} {t:ByteArray} {n:Int} {ns:List ByteArray} {ks:List E} {st:Bool} (h:plain k t n ns=false):right (.mk k t n ns ks) st=false:=by
 rw[right_eq]
 have:node k t n ns ks.length (zhv ks)=false:=by
  unfold plain at h;unfold node
  split
  ·rfl
  ·rename_i hc
   have hc1:¬(k≠8/\0<ns.length):=fun x=>hc (.inl x)
   have hc2:¬(k≠1/\k≠8/\n≠0):=fun x=>hc (.inr x)
   by_cases h1:k=1
   ·subst h1
    have hl:ns.length=0:=by have:=hc1;simp at this;simp[this]
    simp[hl] at h;simp[h]
   by_cases h8:k=8
   ·subst h8
    simp at h;simp[h]
   have hn:n=0:=by
    by_cases e:n=0
    ·exact e
    ·exact absurd ⟨h1,h8,e⟩ hc2
   have hl:ns.length=0:=by
    by_cases e:ns.length=0
    ·exact e
    ·exact absurd ⟨h8,by omega⟩ hc1
   simp only[hn,hl] at h;by_cases h7:k=7
   ·subst h7;simp at h;simp[h]
   by_cases h9:k=9
   ·subst h9;simp at h;simp[h]
   by_cases h2:k=2
   ·simp[h2] at h
   by_cases h3:k=3
   ·simp[h3] at h
   by_cases h4:k=4
   ·simp[h4] at h
   by_cases h5:k=5
   ·simp[h5] at h
   by_cases h6:k=6
   ·simp[h6] at h
   simp[h1,h2,h3,h4,h5,h6,h7,h8,h9]
 rw[this];rfl
section
variable {t:ByteArray} {n:Int} {ns:List ByteArray} {ks:List E}
theorem yas (h:plain 1 t n ns=true):t.size=0/\ns.length=0:=by simpa [plain] using h
theorem zpj {k:Int} (hk:k=2\/k=3\/k=4\/k=5\/k=6) (h:plain k t n ns=true):n=0/\ns.length=0:=by
 have h1:¬k=1:=by omega
 simpa [plain,h1,hk] using h
theorem z7a {k:Int} (hk:k=7\/k=9) (h:plain k t n ns=true):t.size=0/\n=0/\ns.length=0:=by
 have h1:¬k=1:=by omega
 have h2:¬(k=2\/k=3\/k=4\/k=5\/k=6):=by omega
 have:=h;simp only[plain,if_neg h1,if_neg h2,if_pos hk,Bool.and_eq_true,decide_eq_true_eq] at this;exact ⟨this.1.1,this.1.2,this.2⟩
theorem yb2 (h:plain 8 t n ns=true):t.size=0:=by simpa [plain] using h
theorem zik {b:Bool} (h:ks.length=0):zc7 b ks=true:=by rw[z4s h];rfl
theorem ybk (h:plain 1 t n ns=true):right (.mk 1 t n ns ks) false=(decide (0<=n)&&decide (n<=999999999)&&decide (ks.length=0)):=by
 obtain ⟨h1,h2⟩:=yas h;rw[right_eq];by_cases hk:ks.length=0
 ·by_cases h0:0<=n<;>by_cases h9:n<=999999999<;>simp[node,h1,h2,hk,h0,h9,zik hk]
 ·simp[node,h1,h2,hk]
theorem ya3 (h:plain 2 t n ns=true):right (.mk 2 t n ns ks) false=(isText t&&decide (ks.length=0)):=by
 obtain ⟨h1,h2⟩:=zpj (.inl rfl) h;rw[right_eq];by_cases hk:ks.length=0
 ·simp[node,h1,h2,hk,zik hk]
 ·simp[node,h1,h2,hk]
theorem ycr (h:plain 3 t n ns=true):right (.mk 3 t n ns ks) false=(Tok.sel t&&decide (ks.length=0)):=by
 obtain ⟨h1,h2⟩:=zpj (.inr (.inl rfl)) h;rw[right_eq];by_cases hk:ks.length=0
 ·simp[node,h1,h2,hk,zik hk]
 ·simp[node,h1,h2,hk]
theorem ybg (h:plain 4 t n ns=true):right (.mk 4 t n ns ks) false=(Tok.za3 t&&decide (ks.length=0)):=by
 obtain ⟨h1,h2⟩:=zpj (.inr (.inr (.inl rfl))) h;rw[right_eq];by_cases hk:ks.length=0
 ·simp[node,h1,h2,hk,zik hk]
 ·simp[node,h1,h2,hk]
theorem ycg (h:plain 5 t n ns=true):right (.mk 5 t n ns ks) false=(Tok.za3 t&&decide (ks.length=1)&&zc7 false ks):=by obtain ⟨h1,h2⟩:=zpj (by omega) h;rw[right_eq];simp[node,h1,h2]
def zwb (k:Int) (t:ByteArray) (n:Int) (ns:List ByteArray) (ks:List E) (r:Int):Bool:=
 decide (k=6)&&plain k t n ns&&Tok.sel t&&decide ((ks.length:Int)=r+Tok.zar t)&&zc7 false ks
theorem ya9 (hs:∀ s,Tok.sel s=decide (0<=Tok.zar s)) (h:plain 6 t n ns=true):right (.mk 6 t n ns ks) false=zwb 6 t n ns ks 1:=by
 obtain ⟨h1,h2⟩:=zpj (by omega) h;rw[right_eq];unfold zwb;rw[h,hs];by_cases hk:(ks.length:Int)=Tok.zar t+1
 ·have e1:(ks.length:Int)=1+Tok.zar t:=by omega
  by_cases hc:0<=Tok.zar t
  ·have:0<ks.length:=by omega
   simp[node,h1,h2,hk,hc,this];intro hh;omega
  ·have:¬0<ks.length:=by omega
   simp[node,h1,h2,hk,hc,this]
 ·have e1:¬(ks.length:Int)=1+Tok.zar t:=by omega
  simp[node,h1,h2,hk,e1]
theorem ydp (hs:∀ s,Tok.sel s=decide (0<=Tok.zar s)) (k:Int):msg (.mk k t n ns ks)=zwb k t n ns ks 0:=by
 unfold msg zwb;simp only[E.kind,E.num,E.names,E.text,E.kids,hs,Int.zero_add];by_cases h6:k=6
 ·subst h6
  rw[Bool.eq_iff_iff];by_cases hn:n=0
  ·by_cases hl:ns.length=0
   ·simp[plain,hn,hl]
    intro _;exact ⟨fun h=>⟨of_decide_eq_true h.1,of_decide_eq_true h.2⟩,fun h=>⟨decide_eq_true h.1,decide_eq_true h.2⟩⟩
   ·simp[plain,hn,hl]
  ·simp[plain,hn]
 ·simp[h6]
theorem yb4 (h:plain 7 t n ns=true):right (.mk 7 t n ns ks) false=(decide (3<=ks.length)&&znt ks&&zyn (ks.drop 1)):=by
 obtain ⟨h1,h2,h3⟩:=z7a (.inl rfl) h;rw[right_eq];have:zhv ks=zyn (ks.drop 1):=by cases ks<;>rfl
 simp[node,h1,h2,h3,this];generalize zyn ks.tail=m;cases decide (3<=ks.length)<;>cases znt ks<;>cases m<;>rfl
theorem zxs (h:plain 8 t n ns=true):right (.mk 8 t n ns ks) false=(decide (0<=n)&&decide (n<=(ns.length:Int))&&ns.all Tok.za3&&zc7 true ks):=by have h1:=yb2 h;rw[right_eq];by_cases h0:0<=n<;>by_cases h9:n<=(ns.length:Int)<;>simp[node,h1,h0,h9]
theorem zwc (h:plain 9 t n ns=true):right (.mk 9 t n ns ks) true=(decide (ks.length=1)&&zc7 false ks):=by obtain ⟨h1,h2,h3⟩:=z7a (.inr rfl) h;rw[right_eq];simp[node,h1,h2,h3]
theorem ya2 {k:Int} (h1:¬k=1) (h2:¬k=2) (h3:¬k=3) (h4:¬k=4) (h5:¬k=5) (h6:¬k=6) (h7:¬k=7) (h8:¬k=8):right (.mk k t n ns ks) false=false:=by
 rw[right_eq];by_cases h9:k=9
 ·simp[h9]
 ·simp[node,h1,h2,h3,h4,h5,h6,h7,h8,h9]
theorem zv9 (ks:List E) (e:E):zc7 true (ks++[e])=(zc7 false ks&&right e true):=by
 induction ks with
 | nil=>simp[zc7]
 | cons x xs ih=>
  rw[List.cons_append,zc7,zc7,ih,zyo x];have:(xs++[e]).isEmpty=false:=by cases xs<;>rfl
  rw[this];by_cases h9:x.kind=9<;>cases right x true<;>cases zc7 false xs<;>cases right e true<;>simp[h9]
end
end Go.Proofs.YtlmhgeanknhcfaaGreatDoor.Rights
namespace Go.Proofs.YtlmhgeanknhcfaaGreatDoor
namespace ImplVals
open Go.RowKit
open Strs Tree zgy ImplLike ImplPlain Rights
open ImplTok (Part)
theorem zaq {w w':World} (h:∃ p:Regrown,w'=Sort.grow (redrawn w p.d) p.os):Below w.heap.size w w':=by obtain ⟨p,rfl⟩:=h;exact below_regrown _ _ _
def OkV (e:E):Prop:=∀ (w:World) (a:Addr),weight e<=1048576->Nd w a e->Calls Tryz.prog 130 #[.pointer (some a)] w (Part (right e false) w)
def OkS (e:E):Prop:=∀ (w:World) (a:Addr),weight e<=1048576->Nd w a e->Calls Tryz.prog 82 #[.pointer (some a)] w (Part (right e true) w)
def zqg (w:World) (x:Option Addr) (ks:List E):Prop:=∀ i (h:i<ks.length),∃ kb ko,x=some ⟨kb,ko,none⟩/\Nd w ⟨kb,ko+i*5,none⟩ ks[i]
theorem zqg.keep {w w':World} {x:Option Addr} {ks:List E} (h:zqg w x ks) (hb:Below w.heap.size w w'):zqg w' x ks:=fun i hi=>by obtain ⟨kb,ko,e,hn⟩:=h i hi;exact ⟨kb,ko,e,hn.keep hb⟩
theorem zfk {lo:Nat} {w:World} {v:Value} {ns:List ByteArray} (h:zbv lo w ns v):Calls Tryz.prog 139 #[v] w (Part (ns.all Tok.za3) w):=by
 obtain ⟨a,cap,rfl,hm,-,hc⟩:=h;unfold maxLen at hm;have KN:=fun s w=>zH (ImplTok.zm5 s w)
 have HC:=zH hc;clear hc;generalize hD:ns.all Tok.za3=D;have HD:=zH hD;clear hD;obtain ⟨n,hn⟩:∃ n,ns.length=n:=⟨_,rfl⟩;rw[hn] at hm ⊢;have HN:=zH hn;clear hn;go_enter Tryz.func139,Tryz.ntmps139;go_wp2_with fail
 go_loopw [7] (fun j wr=>∃ i:Nat,i<=n/\j=.int .i64 i/\Below w.heap.size w wr/\Hid (∀ j (h:j<ns.length),j<i->Tok.za3 ns[j]=true)) (fun j _=>n-(intOf j).toNat)
 case atStart=>exact ⟨0,by omega,rfl,zB _ _,fun j _ h=>by omega⟩
 case round=>
  obtain ⟨i,hi,rfl,hbw,HI⟩:=hrel;by_cases hlt:i<n
  ·have hil:i<ns.length:=by rw[HN.out];exact hlt
   obtain ⟨b,off,rfl,_,hd⟩:=HC.out (by have:=HN.out;omega);have c0:wr.cell? ⟨b,off+i,none⟩=some (.string ns[i]):=cell_keep hbw (hd i hil);have HB:=zH hbw;clear hd hbw;generalize hs:ns[i]=s at *;have HS:=zH hs;clear hs;cases hv:Tok.za3 s with
   | true=>
    have KS:=zH (KN s wr).out;rw[hv] at KS;have HV:=zH hv;clear hv;go_wp2_with fail
    refine KS.out.mono ?_;rintro r w1 ⟨rfl,hb1⟩;have HB1:=zH (HB.out.trans (hb1.mono HB.out.size));clear hb1 c0;go_wp2_with fail
    go_roundw
    case rel=>
     refine ⟨i+1,by omega,by go_num,HB1.out,fun j hj hji=>?_⟩
     by_cases e:j=i
     ·subst e;rw[HS.out];exact HV.out
     ·exact HI.out j hj (by omega)
    case measure=>simp[intOf];omega
   | false=>
    have KS:=zH (KN s wr).out;rw[hv] at KS
    have hD:D=false:=by rw[<-HD.out,List.all_eq_false];exact ⟨ns[i],List.getElem_mem hil,by rw[HS.out,hv];simp⟩
    subst hD;clear hv;go_wp2_with fail
    refine KS.out.mono ?_;rintro r w1 ⟨rfl,hb1⟩;have HB1:=zH (HB.out.trans (hb1.mono HB.out.size));clear hb1 c0;go_wp2_with fail
    go_ret;exact ⟨rfl,HB1.out⟩
  ·have hD:D=true:=by
    rw[<-HD.out,List.all_eq_true];intro x hx;obtain ⟨j,hj,rfl⟩:=List.getElem_of_mem hx;exact HI.out j hj (by have:=HN.out;omega)
   subst hD;go_wp2_with fail
   go_ret;exact ⟨rfl,hbw⟩
theorem zn9 {w:World} {x:Option Addr} {ks:List E} {cap:Nat} (ih:∀ e,e∈ks->OkV e) (hw:weights ks<=1048576) (h:zqg w x ks) (hm:ks.length<=cap/\cap<=maxLen):
  Calls Tryz.prog 129 #[.slice x ks.length cap] w (Part (zc7 false ks) w):=by
 unfold maxLen at hm;have IH:=zH ih;have HC:=zH h;have HW:=zH hw;clear ih h hw;rw[zjf];generalize hD:ks.all (fun e=>right e false)=D
 have HD:=zH hD;clear hD;generalize hn:ks.length=n at *;have HN:=zH hn;clear hn;go_enter Tryz.func129,Tryz.ntmps129;go_wp2_with fail
 go_loopw [6] (fun j wr=>∃ i:Nat,i<=n/\j=.int .i64 i/\Below w.heap.size w wr/\Hid (∀ j (h:j<ks.length),j<i->right ks[j] false=true)) (fun j _=>n-(intOf j).toNat)
 case atStart=>exact ⟨0,by omega,rfl,zB _ _,fun j _ h=>by omega⟩
 case round=>
  obtain ⟨i,hi,rfl,hbw,HI⟩:=hrel;by_cases hlt:i<n
  ·have hil:i<ks.length:=by rw[HN.out];exact hlt
   obtain ⟨b,off,rfl,hnd⟩:=HC.out i hil;have hwk:weight ks[i]<=1048576:=by have:=zd5 ks i hil;have:=HW.out;omega
   have KS:=zH (IH.out _ (List.getElem_mem hil) wr _ hwk (hnd.keep hbw));have HB:=zH hbw;clear hnd hbw hwk;generalize hs:ks[i]=s at *;have HS:=zH hs;clear hs;cases hv:right s false with
   | true=>
    rw[hv] at KS;have HV:=zH hv;clear hv;go_wp2_with fail
    refine KS.out.mono ?_;rintro r w1 ⟨rfl,hb1⟩;have HB1:=zH (HB.out.trans (hb1.mono HB.out.size));clear hb1;go_wp2_with fail
    go_roundw
    case rel=>
     refine ⟨i+1,by omega,by go_num,HB1.out,fun j hj hji=>?_⟩
     by_cases e:j=i
     ·subst e;rw[HS.out];exact HV.out
     ·exact HI.out j hj (by omega)
    case measure=>simp[intOf];omega
   | false=>
    rw[hv] at KS
    have hD:D=false:=by rw[<-HD.out,List.all_eq_false];exact ⟨ks[i],List.getElem_mem hil,by rw[HS.out,hv];simp⟩
    subst hD;clear hv;go_wp2_with fail
    refine KS.out.mono ?_;rintro r w1 ⟨rfl,hb1⟩;have HB1:=zH (HB.out.trans (hb1.mono HB.out.size));clear hb1;go_wp2_with fail
    go_ret;exact ⟨rfl,HB1.out⟩
  ·have hD:D=true:=by
    rw[<-HD.out,List.all_eq_true];intro x hx;obtain ⟨j,hj,rfl⟩:=List.getElem_of_mem hx;exact HI.out j hj (by have:=HN.out;omega)
   subst hD;go_wp2_with fail
   go_ret;exact ⟨rfl,hbw⟩
theorem zvi {w:World} {a:Addr} {e:E} (h:Nd w a e):∃ b o vn x cap,a=⟨b,o,none⟩/\w.cell? ⟨b,o,none⟩=some (.int .i64 e.kind)/\w.cell? ⟨b,o+1,none⟩=some (.string e.text)/\w.cell? ⟨b,o+2,none⟩=some (.int .i64 e.num) /\
  w.cell? ⟨b,o+3,none⟩=some vn/\w.cell? ⟨b,o+4,none⟩=some (.slice x e.kids.length cap)/\(e.kids.length<=cap/\cap<=maxLen)/\zbv 0 w e.names vn/\zqg w x e.kids:=by
 have h':=fun i (hi:i<e.kids.length)=>h.zrd hi
 obtain ⟨b,o,vn,x,cap,rfl,c0,c1,c2,c3,c4,hm1,hm2,hx,-,-,-,hk⟩:=h.see;refine ⟨b,o,vn,x,cap,rfl,c0,c1,c2,c3,c4,⟨hm1,hm2⟩,hx,fun i hi=>?_⟩
 obtain ⟨kb,ko,e1,e2⟩:=hk i hi;exact ⟨kb,ko,e1,by rw[<-e2];exact h' i hi⟩
theorem zzd {w:World} {a:Addr} {k:Int} {t:ByteArray} {n:Int} {ns:List ByteArray} {ks:List E} (r:Int) (hr:r=0\/r=1) (ih:∀ e,e∈ks->OkV e) (hw:weight (.mk k t n ns ks)<=1048576) (h:Nd w a (.mk k t n ns ks)):
  Calls Tryz.prog 167 #[.pointer (some a),.int .i64 r] w (Part (zwb k t n ns ks r) w):=by
 have KP:=fun d os=>zH (Calls.regrown_of (w:=w) (d:=d) (os:=os) ((zvc (h.keep (below_regrown w d os))).mono fun _ _ ⟨h1,h2⟩=>⟨h1,h2.below⟩))
 obtain ⟨b,o,vn,x,cap,rfl,c0,c1,c2,c3,c4,hm,hx,hk⟩:=zvi h;clear h;simp only[E.kind,E.text,E.num,E.names,E.kids] at *;rw[weight] at hw;have ht:t.size<=1048576:=by omega
 have KS:=fun d os=>zH (Calls.regrown_of (w:=w) (d:=d) (os:=os) (ImplCount.zi8 t _ ht))
 have KC:=fun d os=>zH (Calls.regrown_of (w:=w) (d:=d) (os:=os) (ImplCount.zf4 t _ ht))
 have KV:=fun d os=>zH (Calls.regrown_of (w:=w) (d:=d) (os:=os) (zn9 ih (by omega) (hk.keep (below_regrown w d os)) hm))
 have hcr:=SpecNode.zky t;obtain ⟨x3,p3,rfl,hm3,-⟩:=hx;unfold maxLen at hm hm3;have k0:=cell_regrown c0;have k1:=cell_regrown c1;have k4:=cell_regrown c4;have HS:Hid (zwb k t n ns ks r=(decide (k=6)&&plain k t n ns&&Tok.sel t&&decide ((ks.length:Int)=r+Tok.zar t)&&zc7 false ks)):=rfl;have HIH:=zH ih;clear hk ih hw c0 c1 c2 c3 c4 HIH;generalize zwb k t n ns ks r=D at *;generalize hrt:zc7 false ks=R at *
 generalize hpl:plain k t n ns=P at *;generalize hsl:Tok.sel t=S at *;generalize hca:Tok.zar t=c at *;generalize hnn:ks.length=N at *;clear hrt hpl hsl hca hnn;have hc1:=hcr.1;have hc2:=hcr.2;clear hcr;by_cases h6:k=6
 case neg=>
  have hD:D=false:=by rw[HS.out,decide_eq_false h6];rfl
  subst hD;have b6:(k==6)=false:=by rw[beq_eq_false_iff_ne];exact h6
  clear HS h6;go_enter Tryz.func167,Tryz.ntmps167;go_wp2_with fail
  refine wp_region_quiet_below (by kernel_rfl) (by kernel_rfl) ?_
  repeat (go_big_quiet_step (fail))
  refine wpQuiet_nil ?_;intro w2 hw2;have hb2:=zH (zaq hw2);clear hw2;go_wp2_with fail
  go_ret;exact ⟨rfl,hb2.out⟩
 subst h6;rw[decide_eq_true rfl] at HS;by_cases hlen:(N:Int)=r+c
 case neg=>
  have hD:D=false:=by rw[HS.out,decide_eq_false hlen];cases P<;>cases S<;>rfl
  subst hD;have bl:((N:Int)==r+c)=false:=by rw[beq_eq_false_iff_ne];exact hlen
  have wr1:IntKind.i64.wrap (r+c)=r+c:=IntWalk.i64_in _ (by omega);clear HS hlen;cases P<;>cases S
  all_goals
   go_enter Tryz.func167,Tryz.ntmps167;go_wp2_with fail
   refine wp_region_quiet_below (by kernel_rfl) (by kernel_rfl) ?_
   repeat (go_big_quiet_step (first
    | (go_at_call 128;exact (KP _ _).out)
    | (go_at_call 166;exact (KS _ _).out)
    | (go_at_call 145;exact (KC _ _).out)))
   refine wpQuiet_nil ?_;intro w2 hw2;have hb2:=zH (zaq hw2);clear hw2;go_wp2_with fail
   go_ret;exact ⟨rfl,hb2.out⟩
 have bl:((N:Int)==r+c)=true:=by rw[beq_iff_eq];exact hlen
 have wr1:IntKind.i64.wrap (r+c)=r+c:=IntWalk.i64_in _ (by omega);rw[decide_eq_true hlen] at HS;have HSS:=zH HS.out;clear HS hlen;cases P<;>cases S<;>cases R
 all_goals
  have hD:=HSS.out;simp only[Bool.and_true,Bool.and_false] at hD;subst hD;clear HSS;go_enter Tryz.func167,Tryz.ntmps167;go_wp2_with fail
  refine wp_region_quiet_below (by kernel_rfl) (by kernel_rfl) ?_
  repeat (go_big_quiet_step (first
   | (go_at_call 128;exact (KP _ _).out)
   | (go_at_call 166;exact (KS _ _).out)
   | (go_at_call 145;exact (KC _ _).out)
   | (go_at_call 129;exact (KV _ _).out)))
  refine wpQuiet_nil ?_;intro w2 hw2;have hb2:=zH (zaq hw2);clear hw2;go_wp2_with fail
  go_ret;exact ⟨rfl,hb2.out⟩
end ImplVals
end Go.Proofs.YtlmhgeanknhcfaaGreatDoor
