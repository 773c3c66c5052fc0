/-
  Parser ParseIs ParseTake ParseRow ParseBegins ParseNames
-/
import Derived.Test.YtlmhgeanknhcfaaGreatDoorB3
import Derived.Test.YtlmhgeanknhcfaaGreatDoorB9
set_option maxHeartbeats 4000000
namespace Go.Proofs.YtlmhgeanknhcfaaGreatDoor
namespace Parser
open Go.RowKit
open Strs Tree Gram
structure Cst where
 pb:Nat
 ta:Option Addr
 cap:Nat
 toks:List Tok.T
structure Fit (P:Cst):Prop where
 len:P.toks.length<=800
 cap:P.toks.length<=P.cap
 cap2:P.cap<=maxLen
 text:∀ t,t∈P.toks->t.text.size<=4000
 kind:∀ t,t∈P.toks->(Lit.int .i64 t.kind).wf=true
 num:∀ t,t∈P.toks->(Lit.int .i64 t.num).wf=true
structure PS (P:Cst) (p:Nat) (bad:Bool) (wr:World):Prop where
 fit:Fit P
 size:P.pb<wr.heap.size
 le:p<=P.toks.length
 c0:wr.cell? ⟨P.pb,0,none⟩=some (.slice P.ta P.toks.length P.cap)
 c1:wr.cell? ⟨P.pb,1,none⟩=some (.int .i64 p)
 c2:wr.cell? ⟨P.pb,2,none⟩=some (.bool bad)
 fz:∀ o,wr.frozen? ⟨P.pb,o,none⟩=false
 tok:∀ i t,P.toks[i]?=some t->∃ b o,P.ta=some ⟨b,o,none⟩/\b≠P.pb/\wr.cell? ⟨b,o+i*3,none⟩=some (.int .i64 t.kind)/\wr.cell? ⟨b,o+i*3+1,none⟩=some (.string t.text)/\wr.cell? ⟨b,o+i*3+2,none⟩=some (.int .i64 t.num)
def rest (P:Cst) (p:Nat):R:=P.toks.drop p
theorem PS.below {P:Cst} {p:Nat} {bad:Bool} {wr w':World} (h:PS P p bad wr) (hb:Below wr.heap.size wr w'):PS P p bad w':=
 ⟨h.fit,Nat.lt_of_lt_of_le h.size hb.size,h.le,cell_keep hb h.c0,cell_keep hb h.c1,cell_keep hb h.c2,fun o=>(hb.frozen (p:=⟨P.pb,o,none⟩) h.size).trans (h.fz o),fun i t ht=>by obtain ⟨b,o,e,hne,d0,d1,d2⟩:=h.tok i t ht;exact ⟨b,o,e,hne,cell_keep hb d0,cell_keep hb d1,cell_keep hb d2⟩⟩
theorem PS.draws {P:Cst} {p:Nat} {bad:Bool} {wr:World} (h:PS P p bad wr) (k:Nat):PS P p bad (wr.drewN k):=h.below ⟨rfl,rfl,rfl,zL _,fun _ _=>rfl⟩
theorem other (w:World) (pb o' b o:Nat) (v u:Value) (h:b≠pb\/o≠o') (hc:w.cell? ⟨b,o,none⟩=some u):(w.setCell ⟨pb,o',none⟩ v).cell? ⟨b,o,none⟩=some u:=
 (World.cell?_setCell_other _ _ _ _ (by intro e;injection e with e1 e2 e3;omega)).trans hc
theorem PS.go {P:Cst} {p:Nat} {bad:Bool} {wr:World} (h:PS P p bad wr) (q:Nat) (hq:q<=P.toks.length):PS P q bad (wr.setCell ⟨P.pb,1,none⟩ (.int .i64 q)):=by
 refine ⟨h.fit,by simpa using h.size,hq,other _ _ _ _ _ _ _ (by omega) h.c0,?_,other _ _ _ _ _ _ _ (by omega) h.c2,fun o=>?_,fun i t ht=>?_⟩
 ·have:=h.c1
  go_simp
 ·have:=h.fz o
  go_simp
 ·obtain ⟨b,o,e,hne,d0,d1,d2⟩:=h.tok i t ht
  exact ⟨b,o,e,hne,other _ _ _ _ _ _ _ (.inl hne) d0,other _ _ _ _ _ _ _ (.inl hne) d1,other _ _ _ _ _ _ _ (.inl hne) d2⟩
theorem PS.no {P:Cst} {p:Nat} {bad:Bool} {wr:World} (h:PS P p bad wr):PS P p true (wr.setCell ⟨P.pb,2,none⟩ (.bool true)):=by
 refine ⟨h.fit,by simpa using h.size,h.le,other _ _ _ _ _ _ _ (by omega) h.c0,other _ _ _ _ _ _ _ (by omega) h.c1,?_,fun o=>?_,fun i t ht=>?_⟩
 ·have:=h.c2
  go_simp
 ·have:=h.fz o
  go_simp
 ·obtain ⟨b,o,e,hne,d0,d1,d2⟩:=h.tok i t ht
  exact ⟨b,o,e,hne,other _ _ _ _ _ _ _ (.inl hne) d0,other _ _ _ _ _ _ _ (.inl hne) d1,other _ _ _ _ _ _ _ (.inl hne) d2⟩
def za2 (P:Cst) (w w':World):Prop:=w.grownBy w' (some P.pb)
theorem za2.refl (P:Cst) (w:World):za2 P w w:=⟨rfl,rfl,rfl,zL _,fun _ _ _=>rfl⟩
theorem za2.trans {P:Cst} {a b c:World} (h:za2 P a b) (k:za2 P b c):za2 P a c:=World.grownBy.trans h k
theorem za2.below {P:Cst} {a b c:World} (h:za2 P a b) (k:Below b.heap.size b c):za2 P a c:=h.trans ⟨k.os,k.tape,k.output,k.size,fun i hi _=>k.block i hi⟩
theorem za2.set {P:Cst} {a b:World} (h:za2 P a b) (o:Nat) (v:Value):za2 P a (b.setCell ⟨P.pb,o,none⟩ v):=
 h.trans ⟨rfl,rfl,rfl,by simp[World.setCell],fun k _ hk=>Below.heap_setCell _ _ _ _ (fun e=>hk (by rw[e]))⟩
theorem za2.kept {P:Cst} {w w':World} (h:za2 P w w'):Kept (P.pb+1) w w':=fun b o v hb hc=>by have hlt:=cell_lt hc;exact h.cell (a:=⟨b,o,none⟩) hc (by simp;omega)
def isB (k:Int) (c:ByteArray):R->Bool
 | []=>false
 | t::_=>decide (t.kind=k)&&(decide (c.size=0)||decide (t.text=c))
theorem yc2 (k:Int) (r:R):isB k none_ r=hd k r:=by
 cases r with
 | nil=>rfl
 | cons t r=>have:none_.size=0:=rfl;simp[isB,hd,this]
theorem ziv (c:ByteArray) (hc:¬c.size=0) (r:R):isB 7 c r=mk c r:=by
 cases r with
 | nil=>rfl
 | cons t r=>simp[isB,mk,hc]
theorem zb8 {P:Cst} {p:Nat} {t:Tok.T} {r:R} (h:rest P p=t::r):p<P.toks.length/\P.toks[p]?=some t/\rest P (p+1)=r:=by
 unfold rest at *
 have hp:p<P.toks.length:=by
  rcases Nat.lt_or_ge p P.toks.length with h1|h1
  ·exact h1
  ·rw[List.drop_of_length_le h1] at h;cases h
 rw[List.drop_eq_getElem_cons hp] at h
 injection h with h1 h2
 exact ⟨hp,by rw[List.getElem?_eq_getElem hp,h1],h2⟩
theorem zn4 {P:Cst} {p:Nat} (hp:p<=P.toks.length) (h:rest P p=[]):p=P.toks.length:=by unfold rest at h;have:=congrArg List.length h;simp at this;omega
theorem zaf (P:Cst) (p:Nat):(rest P p).length=P.toks.length-p:=by unfold rest;simp
theorem zab (P:Cst) (p:Nat):(rest P p).tail=rest P (p+1):=by unfold rest;rw[List.tail_drop]
end Parser
namespace Parser
open Go.RowKit
open Strs Tree Gram
def zge (w w':World):Prop:=∃ m,w'=w.drewN m
theorem zge.refl (w:World):zge w w:=⟨0,rfl⟩
theorem zge.more {w w':World} (h:zge w w') (k:Nat):zge w (w'.drewN k):=by obtain ⟨m,rfl⟩:=h;exact ⟨m+k,by rw[World.drewN_drewN]⟩
theorem zge.below {w w':World} (h:zge w w'):Below w.heap.size w w':=by obtain ⟨m,rfl⟩:=h;exact ⟨rfl,rfl,rfl,zL _,fun _ _=>rfl⟩
theorem PS.drawn {P:Cst} {p:Nat} {bad:Bool} {w w':World} (h:PS P p bad w) (hd:zge w w'):PS P p bad w':=h.below hd.below
theorem zen (a b:Int):(a==b)=decide (a=b):=by
 by_cases h:a=b
 ·subst h;simp
 ·rw[decide_eq_false h];simpa using h
theorem zim {s t:ByteArray} (h:¬s=t):(s.toList==t.toList)=false:=by
 refine Bool.eq_false_iff.2 fun e=>h ?_
 have e1:=eq_of_beq e;rw[ByteArray.toList_eq,ByteArray.toList_eq] at e1;exact ByteArray.ext (Array.ext' e1)
theorem zhr {t:ByteArray} (h:¬t.size=0):t.toList.isEmpty=false:=by rw[ByteArray.toList_eq,<-Bool.not_eq_true,List.isEmpty_iff];intro e;have:=congrArg List.length e;rw[Array.length_toList] at this;exact h this
theorem ze4 {P:Cst} {p:Nat} {bad:Bool} {w:World} (h:PS P p bad w) (k:Int) (c:ByteArray):
  Calls Tryz.prog 63 #[.pointer (some ⟨P.pb,0,none⟩),.int .i64 k,.string c] w fun e w'=>e=.returned (.bool (isB k c (rest P p)))/\zge w w':=by
 have c0:=h.c0;have c1:=h.c1;have hl:=h.fit.len;generalize hr:rest P p=r;cases r with
 | nil=>
  have hp:=zn4 h.le hr;clear h hr;generalize P.pb=pb at *;generalize P.toks.length=n at *;subst hp;generalize hD:isB k c []=D;have:D=false:=by rw[<-hD];rfl
  subst this;go_enter Tryz.func63,Tryz.ntmps63;go_wp2_with fail
  go_quiet (fail)
  go_wp2_with fail
  go_ret;exact ⟨rfl,zge.more ⟨0,rfl⟩ _⟩
 | cons t r=>
  obtain ⟨hp,ht,-⟩:=zb8 hr;obtain ⟨tb,to,hta,-,d0,d1,-⟩:=h.tok p t ht;rw[hta] at c0;have hD:isB k c (t::r)=(decide (t.kind=k)&&(decide (c.size=0)||decide (t.text=c))):=rfl
  have hto:t.text.size<=4000:=h.fit.text t (List.mem_of_getElem? ht);have hcap:P.toks.length<=P.cap:=h.fit.cap;generalize isB k c (t::r)=D at *;clear h hr ht hta;generalize P.pb=pb at *;generalize P.toks.length=n at *;generalize P.cap=cap at *;generalize t.kind=tk at *;generalize t.text=tt at *;have HD:=zH hD;clear hD;by_cases hk:tk=k
  case neg=>
   have:D=false:=by rw[HD.out,decide_eq_false hk];rfl
   subst this;have e1:(tk==k)=false:=by rw[zen,decide_eq_false hk]
   clear HD hk;go_enter Tryz.func63,Tryz.ntmps63;go_wp2_with fail
   go_quiet (fail)
   go_wp2_with fail
   go_ret;exact ⟨rfl,zge.more ⟨0,rfl⟩ _⟩
  subst hk;by_cases hc:c.size=0
  ·have:D=true:=by rw[HD.out];simp[hc]
   subst this
   have e2:c.toList.isEmpty=true:=by rw[ByteArray.toList_eq,List.isEmpty_iff];exact List.eq_nil_of_length_eq_zero (by rw[Array.length_toList];exact hc)
   clear HD hc;go_enter Tryz.func63,Tryz.ntmps63;go_wp2_with fail
   go_quiet (fail)
   go_wp2_with fail
   go_ret;exact ⟨rfl,zge.more ⟨0,rfl⟩ _⟩
  have e2:=zhr hc;by_cases hcc:tt=c
  ·have:D=true:=by rw[HD.out];simp[hcc]
   subst this;subst hcc;clear HD hc;go_enter Tryz.func63,Tryz.ntmps63;go_wp2_with fail
   go_quiet (fail)
   go_wp2_with fail
   go_ret;exact ⟨rfl,zge.more ⟨0,rfl⟩ _⟩
  ·have:D=false:=by rw[HD.out];simp[hcc,hc]
   subst this;have e3:=zim hcc;clear HD hc hcc;go_enter Tryz.func63,Tryz.ntmps63;go_wp2_with fail
   go_quiet (fail)
   go_wp2_with fail
   go_ret;exact ⟨rfl,zge.more ⟨0,rfl⟩ _⟩
end Parser
namespace Parser
open Go.RowKit
open Strs Tree Gram
theorem zlq {k:Int} {c:ByteArray} {r:R} (h:isB k c r=true):∃ t r',r=t::r'/\t.kind=k:=by
 cases r with
 | nil=>cases h
 | cons t r=>refine ⟨t,r,rfl,?_⟩;simp only[isB,Bool.and_eq_true,decide_eq_true_eq] at h;exact h.1
theorem za2.drawn {P:Cst} {a b c:World} (h:za2 P a b) (k:zge b c):za2 P a c:=h.below k.below
theorem zdu {P:Cst} {a b:World} (k:zge a b):za2 P a b:=(za2.refl P a).drawn k
theorem zcr {P:Cst} {p:Nat} {bad:Bool} {w:World} (h:PS P p bad w) {k:Int} {c:ByteArray} (hb:isB k c (rest P p)=true):
  Calls Tryz.prog 49 #[.pointer (some ⟨P.pb,0,none⟩),.int .i64 k,.string c] w fun e w'=>e=.returned (.bool true)/\PS P (p+1) bad w'/\za2 P w w':=by
 have K:=zH (ze4 h k c);rw[hb] at K;obtain ⟨t,r,hr,-⟩:=zlq hb;obtain ⟨hp,-,-⟩:=zb8 hr;have hl:=h.fit.len;have H:=zH h;have HP:=zH hp;have hp8:p<800:=by omega
 clear h hb hr hp hl;generalize hpb:P.pb=pb at *;have HPB:=zH hpb;clear hpb;go_enter Tryz.func49,Tryz.ntmps49;go_wp2_with fail
 refine K.out.mono ?_;rintro e w1 ⟨rfl,hd⟩;have h1:=H.out.drawn hd;have c1:=h1.c1;rw[HPB.out] at c1;have fz:=h1.fz 1;rw[HPB.out] at fz;have HD:=zH hd;have H1:=zH h1;clear hd h1;go_wp2_with fail
 go_ret;refine ⟨rfl,?_,?_⟩
 ·have:=H1.out.go (p+1) (by have:=HP.out;omega)
  rw[HPB.out] at this;exact this
 ·have:=(zdu (P:=P) HD.out).set 1 (.int .i64 ((p:Int)+1))
  rw[HPB.out] at this;exact this
theorem zfq {P:Cst} {p:Nat} {bad:Bool} {w:World} (h:PS P p bad w) {k:Int} {c:ByteArray} (hb:isB k c (rest P p)=false):
  Calls Tryz.prog 49 #[.pointer (some ⟨P.pb,0,none⟩),.int .i64 k,.string c] w fun e w'=>e=.returned (.bool false)/\PS P p bad w'/\za2 P w w':=by
 have K:=zH (ze4 h k c);rw[hb] at K;have H:=zH h;clear h hb;generalize hpb:P.pb=pb at *;clear hpb;go_enter Tryz.func49,Tryz.ntmps49;go_wp2_with fail
 refine K.out.mono ?_;rintro e w1 ⟨rfl,hd⟩;have HD:=zH hd;clear hd;go_wp2_with fail
 go_ret;exact ⟨rfl,H.out.drawn HD.out,zdu HD.out⟩
theorem znd {P:Cst} {p:Nat} {bad:Bool} {w:World} (h:PS P p bad w) {k:Int} {c:ByteArray} (hb:isB k c (rest P p)=false):
  Calls Tryz.prog 50 #[.pointer (some ⟨P.pb,0,none⟩),.int .i64 k,.string c] w fun e w'=>e=.returned (.string ⟨#[]⟩)/\PS P p true w'/\za2 P w w':=by
 have K:=zH (ze4 h k c);rw[hb] at K;have H:=zH h;clear h hb;generalize hpb:P.pb=pb at *;have HPB:=zH hpb;clear hpb;go_enter Tryz.func50,Tryz.ntmps50;go_wp2_with fail
 refine K.out.mono ?_;rintro e w1 ⟨rfl,hd⟩;have h1:=H.out.drawn hd;have c2:=h1.c2;rw[HPB.out] at c2;have fz:=h1.fz 2;rw[HPB.out] at fz;have HD:=zH hd;have H1:=zH h1;clear hd h1;go_wp2_with fail
 go_ret;refine ⟨rfl,?_,?_⟩
 ·have:=H1.out.no
  rw[HPB.out] at this;exact this
 ·have:=(zdu (P:=P) HD.out).set 2 (.bool true)
  rw[HPB.out] at this;exact this
theorem zck {P:Cst} {p:Nat} {bad:Bool} {w:World} (h:PS P p bad w) {k:Int} {c:ByteArray} (hb:isB k c (rest P p)=true):
  Calls Tryz.prog 50 #[.pointer (some ⟨P.pb,0,none⟩),.int .i64 k,.string c] w fun e w'=>e=.returned (.string (txt (rest P p)))/\PS P (p+1) bad w'/\za2 P w w':=by
 have K:=zH (ze4 h k c);rw[hb] at K;obtain ⟨t,r,hr,-⟩:=zlq hb;obtain ⟨hp,ht,-⟩:=zb8 hr;have hx:txt (rest P p)=t.text:=by rw[hr];rfl
 rw[hx];have hl:=h.fit.len;have hcap:=h.fit.cap;obtain ⟨tb,to,hta,hne,-,-,-⟩:=h.tok p t ht;have H:=zH h;have HP:=zH hp;have HT:=zH ht;have HTA:=zH hta;have hp8:p<800:=by omega
 clear h hb hr hl hx ht hta;generalize hpb:P.pb=pb at *;generalize hN:P.toks.length=N at *;generalize hC:P.cap=cap at *;generalize htt:t.text=tt at *;have HTT:=zH htt;clear htt;have HPB:=zH (And.intro hpb (And.intro hN hC));clear hpb hN hC;go_enter Tryz.func50,Tryz.ntmps50;go_wp2_with fail
 refine K.out.mono ?_;rintro e w1 ⟨rfl,hd⟩;have h1:=H.out.drawn hd;have c0:=h1.c0;have c1:=h1.c1;rw[HPB.out.1] at c1;rw[HPB.out.1,HPB.out.2.1,HPB.out.2.2,HTA.out] at c0;have fz:=h1.fz 1;rw[HPB.out.1] at fz
 have d1:w1.cell? ⟨tb,to+p*3+1,none⟩=some (.string tt):=by rw[<-HTT.out];obtain ⟨tb',to',hta',-,-,d1,-⟩:=h1.tok p t HT.out;rw[HTA.out] at hta';cases hta';exact d1
 have HD:=zH hd;have H1:=zH h1;clear hd h1;go_wp2_with fail
 go_quiet (fail)
 go_wp2_with fail
 go_ret;refine ⟨rfl,?_,?_⟩
 ·have:=H1.out.go (p+1) (by have:=HP.out;have:=HPB.out.2.1;omega)
  rw[HPB.out.1] at this;exact this.draws _
 ·have:=(zdu (P:=P) HD.out).set 1 (.int .i64 ((p:Int)+1))
  rw[HPB.out.1] at this;exact this.drawn ⟨_,rfl⟩
end Parser
namespace Parser
open Go.RowKit
open Strs Tree Gram
def Lo (P:Cst) (base:Nat):Prop:=P.pb<base/\∀ b o,0<P.toks.length->P.ta=some ⟨b,o,none⟩->b<base
theorem PS.lo {P:Cst} {p:Nat} {bad:Bool} {w:World} (h:PS P p bad w):Lo P w.heap.size:=by
 refine ⟨h.size,fun b o hl e=>?_⟩
 obtain ⟨b',o',e',-,d,-⟩:=h.tok 0 P.toks[0] (List.getElem?_eq_getElem hl);rw[e] at e';cases e';exact cell_lt d
theorem Lo.le {P:Cst} {a b:Nat} (h:Lo P a) (hab:a<=b):Lo P b:=⟨Nat.lt_of_lt_of_le h.1 hab,fun x o hl e=>Nat.lt_of_lt_of_le (h.2 x o hl e) hab⟩
theorem zfz {w w':World} {base b o:Nat} {v:Value} (hb:Below base w w') (hlt:b<base) (h:w.cell? ⟨b,o,none⟩=some v):w'.cell? ⟨b,o,none⟩=some v:=by rw[hb.cell (p:=⟨b,o,none⟩) hlt];exact h
theorem PS.low {P:Cst} {p:Nat} {bad:Bool} {wr w':World} {base:Nat} (h:PS P p bad wr) (hb:Below base wr w') (hl:Lo P base):PS P p bad w':=
 ⟨h.fit,Nat.lt_of_lt_of_le h.size hb.size,h.le,zfz hb hl.1 h.c0,zfz hb hl.1 h.c1,zfz hb hl.1 h.c2,fun o=>(hb.frozen (p:=⟨P.pb,o,none⟩) hl.1).trans (h.fz o),fun i t ht=>by
  obtain ⟨b,o,e,hne,d0,d1,d2⟩:=h.tok i t ht
  have hlt:=hl.2 b o (by have:=(List.getElem?_eq_some_iff.1 ht).1;omega) e
  exact ⟨b,o,e,hne,zfz hb hlt d0,zfz hb hlt d1,zfz hb hlt d2⟩⟩
theorem za2.low {P:Cst} {a b c:World} (h:za2 P a b) (k:Below a.heap.size b c):za2 P a c:=by have h':a.grownBy b (some P.pb):=h;exact ⟨k.os.trans h'.os,k.tape.trans h'.tape,k.output.trans h'.output,Nat.le_trans h'.size k.size,fun i hi hn=>(k.block i hi).trans (h'.block i hi hn)⟩
theorem za2.size {P:Cst} {a b:World} (h:za2 P a b):a.heap.size<=b.heap.size:=World.grownBy.size h
theorem zcg {P:Cst} {w w':World} {base:Nat} {e:TypeId} {size:Nat} {v:Value} {n:Nat} {xs:List Value} (h:w.ownsRow base e size v n xs) (ht:za2 P w w') (hp:P.pb<base):w'.ownsRow base e size v n xs:=by
 have hlt:=h.lt;refine ⟨h.1,?_⟩;rcases h.2 with hn|⟨g,cap,cur,rfl,hbg,hgg,rest⟩
 ·exact .inl hn
 ·refine .inr ⟨g,cap,cur,rfl,hbg,?_,rest⟩
  rw[World.grownBy.block ht g (hlt g rfl).2 (by simp;omega)];exact hgg
theorem zo5 {w:World} {base lo:Nat} {v:Value} {xs:List ByteArray} (h:w.ownsRow base 9 1 v xs.length (xs.map Value.string)) (hlo:lo<=base) (hx:∀ x,x∈xs->x.size<=maxLen):zbv lo w xs v:=by
 have h':=h;obtain ⟨_,⟨rfl,hn⟩|⟨g,cap,cur,rfl,hbg,hg,hnc,hcm,_,_⟩⟩:=h
 ·exact ⟨none,0,by rw[hn],⟨by omega,by unfold maxLen;omega⟩,hx,fun hp=>by omega⟩
 ·refine ⟨_,cap,rfl,⟨hnc,hcm⟩,hx,fun hp=>⟨g,0,rfl,by omega,fun j hj=>?_⟩⟩
  rw[Nat.zero_add,h'.cellAt j (by omega)];simp[hj]
theorem zdy {wr w':World} {base:Nat} {e:TypeId} {o:Obj} {v:Value} {n sz:Nat} {xs:List Value} (hb:base<=wr.heap.size) (hown:wr.ownsRow base e sz v n xs) (hg:(wr.alloc o).grownBy w' v.ownBlock):Below base wr w':=
 ((zB base wr).alloc hb o).grown hg (by simp;omega) (fun k hk=>(hown.lt k hk).1)
def plc (pb:Nat) (w:World):Nat:=match w.cell? ⟨pb,1,none⟩ with|some (.int _ n)=>n.toNat|_=>0
theorem PS.plc {P:Cst} {p:Nat} {bad:Bool} {w:World} (h:PS P p bad w):plc P.pb w=p:=by unfold Parser.plc;rw[h.c1];simp
theorem zcn {P:Cst} {p:Nat} (hf:Fit P):(txt (rest P p)).size<=4000:=by
 generalize hr:rest P p=r;cases r with
 | nil=>exact Nat.zero_le _
 | cons t r=>exact hf.text t (List.mem_of_getElem? (zb8 hr).2.1)
theorem zkc {P:Cst} {p:Nat} {k:Int} {c:ByteArray} (h:isB k c (rest P p)=true):p<P.toks.length:=by obtain ⟨t,r,hr,-⟩:=zlq h;exact (zb8 hr).1
theorem zft {w:World} {base:Nat} {e:TypeId} {size:Nat} {v:Value} {n:Nat} {xs:List Value} (h:w.ownsRow base e size v n xs) (a:Addr) (u:Value) (hp:a.block<base):(w.setCell a u).ownsRow base e size v n xs:=by
 refine ⟨h.1,?_⟩;rcases h.2 with hn|⟨g,cap,cur,rfl,hbg,hgg,rest⟩
 ·exact .inl hn
 ·refine .inr ⟨g,cap,cur,rfl,hbg,?_,rest⟩
  rw[Below.heap_setCell _ _ _ _ (by omega)];exact hgg
def zgq (w:World) (B:Nat) (a b c d e:Value):World:=((((w.setCell ⟨B,0,none⟩ a).setCell ⟨B,1,none⟩ b).setCell ⟨B,2,none⟩ c).setCell ⟨B,3,none⟩ d).setCell ⟨B,4,none⟩ e
theorem zai {base:Nat} {w0 w:World} (h:Below base w0 w) {B:Nat} (hB:base<=B) (a b c d e:Value):Below base w0 (zgq w B a b c d e):=((((h.setCell hB _).setCell hB _).setCell hB _).setCell hB _).setCell hB _
theorem zyh {w:World} {base:Nat} {e:TypeId} {size:Nat} {v:Value} {n:Nat} {xs:List Value} (h:w.ownsRow base e size v n xs) {B:Nat} (hB:B<base) (a b c d f:Value):(zgq w B a b c d f).ownsRow base e size v n xs:=
 zft (zft (zft (zft (zft h _ _ hB) _ _ hB) _ _ hB) _ _ hB) _ _ hB
theorem zcl (w:World) {B lo:Nat} (h:B<lo) (a b c d e:Value):Kept lo w (zgq w B a b c d e):=
 ((((zci w ⟨B,0,none⟩ a h).trans (zci _ ⟨B,1,none⟩ b h)).trans (zci _ ⟨B,2,none⟩ c h)).trans (zci _ ⟨B,3,none⟩ d h)).trans (zci _ ⟨B,4,none⟩ e h)
structure Zero (B:Nat) (wr:World):Prop where
 size:B<wr.heap.size
 z0:wr.cell? ⟨B,0,none⟩=some (.int .i64 0)
 z1:wr.cell? ⟨B,1,none⟩=some (.string ⟨#[]⟩)
 z2:wr.cell? ⟨B,2,none⟩=some (.int .i64 0)
 z3:wr.cell? ⟨B,3,none⟩=some (.slice none 0 0)
 z4:wr.cell? ⟨B,4,none⟩=some (.slice none 0 0)
 fz:∀ o,wr.frozen? ⟨B,o,none⟩=false
theorem Zero.same {B:Nat} {wr w':World} (h:Zero B wr) (hs:wr.heap.size<=w'.heap.size) (hb:w'.heap[B]?=wr.heap[B]?):Zero B w':=by
 have hc:∀ o,w'.cell? ⟨B,o,none⟩=wr.cell? ⟨B,o,none⟩:=fun o=>World.cell?_of_block (a:=⟨B,o,none⟩) hb
 have hf:∀ o,w'.frozen? ⟨B,o,none⟩=wr.frozen? ⟨B,o,none⟩:=fun o=>World.frozen?_of_block (a:=⟨B,o,none⟩) hb
 exact ⟨Nat.lt_of_lt_of_le h.size hs,(hc 0).trans h.z0,(hc 1).trans h.z1,(hc 2).trans h.z2,(hc 3).trans h.z3,(hc 4).trans h.z4,fun o=>(hf o).trans (h.fz o)⟩
theorem Zero.low {B base:Nat} {wr w':World} (h:Zero B wr) (hb:Below base wr w') (hB:B<base):Zero B w':=h.same hb.size (hb.block B hB)
theorem Zero.step {B:Nat} {wr w':World} (h:Zero B wr) (hb:Below wr.heap.size wr w'):Zero B w':=h.low hb h.size
theorem Zero.turn {P:Cst} {B:Nat} {wr w':World} (h:Zero B wr) (ht:za2 P wr w') (hB:B≠P.pb):Zero B w':=h.same ht.size (World.grownBy.block ht B h.size (by simpa using hB))
theorem zcd (w:World) (T:TypeId):Zero w.heap.size (w.alloc (.cells #[.int .i64 0,.string ⟨#[]⟩,.int .i64 0,.slice none 0 0,.slice none 0 0] T)):=by
 refine ⟨by simp,?_,?_,?_,?_,?_,fun o=>?_⟩
 all_goals go_simp
def zir (lo:Nat) (w:World) (xs:List ByteArray) (v:Value):Prop:=
 (∀ x,x∈xs->x.size<=maxLen)/\∃ b o c,v=.slice (some ⟨b,o,none⟩) xs.length c/\xs.length<=c/\c<=maxLen/\lo<=b/\∀ j (h:j<xs.length),w.cell? ⟨b,o+j,none⟩=some (.string xs[j])
theorem zj8 {w:World} {base lo:Nat} {v:Value} {xs:List ByteArray} (h:w.ownsRow base 9 1 v xs.length (xs.map Value.string)) (hn:v≠.slice none 0 0) (hlo:lo<=base) (hx:∀ x,x∈xs->x.size<=maxLen):zir lo w xs v:=by
 have h':=h;obtain ⟨_,⟨rfl,_⟩|⟨g,cap,cur,rfl,hbg,hg,hnc,hcm,_,_⟩⟩:=h
 ·exact absurd rfl hn
 ·refine ⟨hx,g,0,cap,rfl,hnc,hcm,by omega,fun j hj=>?_⟩
  rw[Nat.zero_add,h'.cellAt j (by omega)];simp[hj]
theorem zir.keep {lo:Nat} {w w':World} {xs:List ByteArray} {v:Value} (h:zir lo w xs v) (k:Kept lo w w'):zir lo w' xs v:=by obtain ⟨hx,b,o,c,e,m1,m2,hb,hc⟩:=h;exact ⟨hx,b,o,c,e,m1,m2,hb,fun j hj=>k b _ _ hb (hc j hj)⟩
theorem zir.mono {lo hi:Nat} {w:World} {xs:List ByteArray} {v:Value} (h:zir hi w xs v) (hl:lo<=hi):zir lo w xs v:=by obtain ⟨hx,b,o,c,e,m1,m2,hb,hc⟩:=h;exact ⟨hx,b,o,c,e,m1,m2,Nat.le_trans hl hb,hc⟩
theorem zir.texts {lo:Nat} {w:World} {xs:List ByteArray} {v:Value} (h:zir lo w xs v):zbv lo w xs v:=by obtain ⟨hx,b,o,c,rfl,m1,m2,hb,hc⟩:=h;exact ⟨_,c,rfl,⟨m1,m2⟩,hx,fun _=>⟨b,o,rfl,hb,hc⟩⟩
def z7g (P:Cst) (p:Nat) (bad:Bool) (k:Int) (c:ByteArray) (w:World) (e:Ending) (w':World):Prop:=
 ∃ s q b,e=.returned (.string s)/\PS P q b w'/\za2 P w w'/\s.size<=4000/\p<=q/\(b=false->bad=false/\isB k c (rest P p)=true/\q=p+1/\s=txt (rest P p))/\(b=true->bad=true\/isB k c (rest P p)=false)
theorem zf0 {P:Cst} {p:Nat} {bad:Bool} {w:World} (h:PS P p bad w) (k:Int) (c:ByteArray):
  Calls Tryz.prog 50 #[.pointer (some ⟨P.pb,0,none⟩),.int .i64 k,.string c] w (z7g P p bad k c w):=by
 cases hb:isB k c (rest P p) with
 | true=>refine (zck h hb).mono ?_;rintro e w' ⟨rfl,h1,ht⟩;exact ⟨_,p+1,bad,rfl,h1,ht,zcn h.fit,Nat.le_succ _,fun e=>⟨e,hb,rfl,rfl⟩,fun e=>.inl e⟩
 | false=>refine (znd h hb).mono ?_;rintro e w' ⟨rfl,h1,ht⟩;exact ⟨_,p,true,rfl,h1,ht,Nat.zero_le _,zL _,(fun e=>nomatch e),fun _=>.inr hb⟩
end Parser
namespace Parser
open Go.RowKit
open Strs Tree Gram
theorem z3u {P:Cst} {p:Nat} {bad:Bool} {w:World} (h:PS P p bad w) (hr:rest P p=[]):
  Calls Tryz.prog 106 #[.pointer (some ⟨P.pb,0,none⟩)] w fun e w'=>e=.returned (.bool (begins (rest P p)))/\PS P p bad w'/\za2 P w w':=by
 have hp:=zn4 h.le hr;rw[hr];have c0:=h.c0;have c1:=h.c1;have H:=zH h;have hl:=h.fit.len;clear h hr;generalize P.toks.length=n at *;generalize hpb:P.pb=pb at *;clear hpb;subst hp;generalize hD:begins []=D;have:D=false:=by rw[<-hD];rfl
 subst this;go_enter Tryz.func106,Tryz.ntmps106;go_wp2_with fail
 go_quiet (fail)
 go_wp2_with fail
 go_ret;exact ⟨rfl,H.out.draws _,zdu ⟨_,rfl⟩⟩
theorem zz7 {P:Cst} {p:Nat} {bad:Bool} {w:World} (h:PS P p bad w) {t:Tok.T} {r:R} (hr:rest P p=t::r):
  Calls Tryz.prog 106 #[.pointer (some ⟨P.pb,0,none⟩)] w fun e w'=>e=.returned (.bool (begins (rest P p)))/\PS P p bad w'/\za2 P w w':=by
 obtain ⟨hp,ht,-⟩:=zb8 hr;obtain ⟨tb,to,hta,hne,d0,d1,d2⟩:=h.tok p t ht;have c0:=h.c0;have c1:=h.c1;rw[hta] at c0;have H:=zH h;have hl:=h.fit.len;have hcap:=h.fit.cap;rw[hr];have hD:begins (t::r)=((decide (1<=t.kind/\t.kind<=5)&&decide (t.kind≠2))||(decide (t.kind=7)&&(decide (t.text=zgs)||decide (t.text=zhc)||decide (t.text=zqf)))):=rfl
 have hto:=h.fit.text t (List.mem_of_getElem? ht);generalize begins (t::r)=D at *;have KI:=fun w1=>zH (SpecTree.z2i t.kind 1 5 w1)
 have hlt:=cell_lt d0;clear h hr ht hta;generalize P.toks.length=n at *;generalize P.cap=cap at *;generalize t.kind=tk at *;generalize t.text=tt at *;generalize t.num=tn at *;generalize hpb:P.pb=pb at *;clear hpb;have HD:=zH hD;clear hD;generalize hI:decide (1<=tk/\tk<=5)=I at *;clear hI;go_enter Tryz.func106,Tryz.ntmps106;go_wp2_with fail
 go_quiet (fail)
 generalize hw1:w.drewN _=w1;have HW:zge w w1:=⟨_,hw1.symm⟩;have H1:=zH (H.out.drawn HW);have HD1:=zH HW;have hb:=HW.below;have c0:=cell_keep hb c0;have c1:=cell_keep hb c1;have d0:=cell_keep hb d0;have d1:=cell_keep hb d1;have d2:=cell_keep hb d2;have hlt:=cell_lt d0;have hlp:=cell_lt c0;clear hw1 HW hb;go_wp2_with fail
 go_region
 go_wp2_with fail
 refine (KI _).out.mono ?_;rintro e w2 ⟨rfl,rfl⟩;have x0:(w1.alloc (Obj.cells #[.int .i64 tk,.string tt,.int .i64 tn] 94)).drew.cell? ⟨w1.heap.size,0,none⟩=some (.int .i64 tk):=by go_simp
 have x1:(w1.alloc (Obj.cells #[.int .i64 tk,.string tt,.int .i64 tn] 94)).drew.cell? ⟨w1.heap.size,1,none⟩=some (.string tt):=by go_simp
 have hbl:Below w1.heap.size w1 (w1.alloc (Obj.cells #[.int .i64 tk,.string tt,.int .i64 tn] 94)).drew:=((zB _ _).alloc (zL _) _).drew;generalize (w1.alloc (Obj.cells #[.int .i64 tk,.string tt,.int .i64 tn] 94)).drew=w2 at *;have H2:=zH (H1.out.below hbl);have HT:=zH ((zdu (P:=P) HD1.out).below hbl);clear hbl d0 d1 d2 c0 c1 hlt hlp;by_cases h2:tk=2
 ·have b2:(tk != 2)=false:=by rw[h2];rfl
  have b7:(tk==7)=false:=by rw[h2];rfl
  have:D=false:=by rw[HD.out,h2];simp
  subst this;subst h2;clear HD;cases I
  ·go_wp2_with fail
   go_ret;exact ⟨rfl,H2.out,HT.out⟩
  ·go_wp2_with fail
   go_ret;exact ⟨rfl,H2.out,HT.out⟩
 have b2:(tk != 2)=true:=by simpa using h2
 cases I with
 | true=>
  have:D=true:=by rw[HD.out];simp[h2]
  subst this;clear HD h2;go_wp2_with fail
  go_ret;exact ⟨rfl,H2.out,HT.out⟩
 | false=>
  by_cases h7:tk=7
  case neg=>
   have b7:(tk==7)=false:=by rw[zen,decide_eq_false h7]
   have:D=false:=by rw[HD.out];simp[h7]
   subst this;clear HD h2 h7;go_wp2_with fail
   go_ret;exact ⟨rfl,H2.out,HT.out⟩
  subst h7;have HD:Hid (D=(decide (tt=zgs)||decide (tt=zhc)||decide (tt=zqf))):=zH (by rw[HD.out];simp)
  by_cases g1:tt=zgs
  ·have:D=true:=by rw[HD.out];simp[g1]
   subst this;subst g1;unfold zgs at *;clear HD h2;go_wp2_with fail
   go_ret;exact ⟨rfl,H2.out,HT.out⟩
  by_cases g2:tt=zhc
  ·have:D=true:=by rw[HD.out];simp[g2]
   subst this;subst g2;unfold zhc at *;clear HD h2 g1;go_wp2_with fail
   go_ret;exact ⟨rfl,H2.out,HT.out⟩
  by_cases g3:tt=zqf
  ·have:D=true:=by rw[HD.out];simp[g3]
   subst this;subst g3;unfold zqf at *;clear HD h2 g1 g2;go_wp2_with fail
   go_ret;exact ⟨rfl,H2.out,HT.out⟩
  ·have:D=false:=by rw[HD.out];simp[g1,g2,g3]
   subst this
   have e1:(tt.toList==[40])=false:=by have:=zim g1;rw[ByteArray.toList_eq zgs] at this;exact this
   have e2:(tt.toList==[91])=false:=by have:=zim g2;rw[ByteArray.toList_eq zhc] at this;exact this
   have e3:(tt.toList==[94])=false:=by have:=zim g3;rw[ByteArray.toList_eq zqf] at this;exact this
   clear HD h2 g1 g2 g3;go_wp2_with fail
   go_ret;exact ⟨rfl,H2.out,HT.out⟩
theorem z0m {P:Cst} {p:Nat} {bad:Bool} {w:World} (h:PS P p bad w):
  Calls Tryz.prog 106 #[.pointer (some ⟨P.pb,0,none⟩)] w fun e w'=>e=.returned (.bool (begins (rest P p)))/\PS P p bad w'/\za2 P w w':=by
 cases hr:rest P p with
 | nil=>rw[<-hr];exact z3u h hr
 | cons t r=>rw[<-hr];exact zz7 h hr
end Parser
namespace Parser
open Go.RowKit
open Strs Tree Gram
theorem zs6:(Tryz.prog.info? 9).map (fun i=>(i.zero,i.size,i.bytes))=some (some (.string ByteArray.empty),1,16):=by kernel_rfl
theorem zbw (k:Int) (r:R):isB k ⟨#[]⟩ r=hd k r:=yc2 k r
theorem zpa {P:Cst} {q:Nat} {ts:List ByteArray} (h:isB 1 ⟨#[]⟩ (rest P q)=true):zbx ts (rest P q)=zbx (ts++[txt (rest P q)]) (rest P (q+1)):=by obtain ⟨t,r,hr,hk⟩:=zlq h;have h1:=(zb8 hr).2.2;rw[h1,hr,zbx,if_pos hk];rfl
theorem zk9 {P:Cst} {q:Nat} {ts:List ByteArray} (h:isB 1 ⟨#[]⟩ (rest P q)=false):zbx ts (rest P q)=(ts,rest P q):=by
 rw[zbw] at h;generalize rest P q=r at *;cases r with
 | nil=>rfl
 | cons t r=>
  rw[zbx,if_neg]
  simpa [hd] using h
def z6u (P:Cst) (p:Nat) (bad:Bool) (w:World) (e:Ending) (w':World):Prop:=
 ∃ v ts q b2,e=.returned v/\zir w.heap.size w' ts v/\ts.length<=800/\PS P q b2 w'/\za2 P w w'/\(∀ ts' r1,names (rest P p)=some (ts',r1)->ts=ts'/\rest P q=r1/\b2=bad)/\(names (rest P p)=none->b2=true)
theorem zfk {P:Cst} {p:Nat} {bad:Bool} {w:World} (h:PS P p bad w):
  Calls Tryz.prog 56 #[.pointer (some ⟨P.pb,0,none⟩)] w (z6u P p bad w):=by
 obtain ⟨i0,hi,hz0,hz1,hz2⟩:=info_parts zs6;have K1:=fun (w1:World) (h1:PS P p bad w1) (hb:isB 7 ⟨#[124]⟩ (rest P p)=true)=>zH (zcr h1 hb)
 have K0:=fun (w1:World) (h1:PS P p bad w1) (hb:isB 7 ⟨#[124]⟩ (rest P p)=false)=>zH (zfq h1 hb)
 have KI:=fun (w1:World) (q:Nat) (h1:PS P q bad w1)=>zH (ze4 h1 1 ⟨#[]⟩)
 have KN:=fun (w1:World) (q:Nat) (h1:PS P q bad w1) (hb:isB 1 ⟨#[]⟩ (rest P q)=true)=>zH (zck h1 hb)
 have KY:=fun (w1:World) (q:Nat) (h1:PS P q bad w1) (hb:isB 7 ⟨#[124]⟩ (rest P q)=true)=>zH (zck h1 hb)
 have KZ:=fun (w1:World) (q:Nat) (h1:PS P q bad w1) (hb:isB 7 ⟨#[124]⟩ (rest P q)=false)=>zH (znd h1 hb)
 have H:=zH h;have HLO:=zH h.lo;have hpbl:=h.size;have h8:=h.fit.len;clear h;generalize hpb:P.pb=pb at *;generalize hN:P.toks.length=N at *;have HPB:=zH hpb;clear hpb;have HN:=zH hN;clear hN;have h0:Hid (PS P p bad (w.alloc (Obj.cells #[] 9))):=zH (H.out.below ((zB _ _).alloc (zL _) _));have T0:Hid (za2 P w (w.alloc (Obj.cells #[] 9))):=zH ((za2.refl P w).low ((zB _ _).alloc (zL _) _))
 go_enter Tryz.func56,Tryz.ntmps56;go_wp2_with fail
 cases hbar:isB 7 ⟨#[124]⟩ (rest P p) with
 | false=>
  refine (K0 _ h0.out hbar).out.mono ?_;rintro e w1 ⟨rfl,h1,ht⟩;have H1:=zH h1;have HT:=zH ht;clear h1 ht;go_wp2_with fail
  go_ret
  have hn:names (rest P p)=some ([],rest P p):=by
   unfold names;rw[<-ziv znh (by decide)];rw[show isB 7 znh (rest P p)=false from hbar]
   rfl
  refine ⟨_,[],p,bad,rfl,⟨(fun _ h=>nomatch h),_,_,_,rfl,zL _,Nat.zero_le _,zL _,fun j h=>absurd h (Nat.not_lt_zero _)⟩,Nat.zero_le _,H1.out,T0.out.trans HT.out,?_,?_⟩
  ·intro ts' r1 he;rw[hn] at he;cases he;exact ⟨rfl,rfl,rfl⟩
  ·intro he;rw[hn] at he;cases he
 | true=>
  have HB:=zH hbar;refine (K1 _ h0.out hbar).out.mono ?_;rintro e w1 ⟨rfl,h1,ht⟩;have H1:=zH h1;have HT:=zH (T0.out.trans ht);have HO:=zH (zcg (World.ownsRow_lit w #[] 0 (zL _) (Nat.zero_le _) rfl:(w.alloc (Obj.cells #[] 9)).ownsRow w.heap.size 9 1 _ 0 ([].map Value.string)) ht (by rw[HPB.out];exact hpbl));clear h1 ht hbar;go_wp2_with fail
  go_loopw [3] (fun v wr=>∃ (ts:List ByteArray) (q:Nat),p<q/\q<=N/\ts.length<=q/\(∀ x,x∈ts->x.size<=maxLen)/\zbx [] (rest P (p+1))=zbx ts (rest P q)/\PS P q bad wr/\za2 P w wr/\wr.ownsRow w.heap.size 9 1 v ts.length (ts.map Value.string)/\v≠.slice none 0 0) (fun _ wr=>N-plc pb wr)
  case atStart=>exact ⟨[],p+1,by omega,by have:=zkc HB.out;rw[HN.out] at this;omega,by simp,by simp,rfl,H1.out,HT.out,HO.out,by simp⟩
  case round=>
   obtain ⟨ts,q,hpq,hqN,hlen,hsz,hgo,hps,htr,hown,hnn⟩:=hrel;have HGO:=zH hgo;clear hgo;have HSZ:=zH hsz;clear hsz;have HPS:=zH hps;have hpl:plc pb wr=q:=by rw[<-HPB.out];exact hps.plc
   have hpl:=zH hpl;have hgw:w.heap.size<=wr.heap.size:=htr.size;clear hps;have HTR:=zH htr;clear htr;obtain ⟨ra,rc,rfl⟩:=Kit.za5 hown;have HO1:=zH hown;clear hown;have HNN:=zH hnn;clear hnn;have K:=KI wr q HPS.out;cases hb:isB 1 ⟨#[]⟩ (rest P q) with
   | false=>
    have HL:Hid (zbx [] (rest P (p+1))=(ts,rest P q)):=zH (HGO.out.trans (zk9 hb));rw[hb] at K;clear hb;go_wp2_with fail
    refine K.out.mono ?_;rintro e w2 ⟨rfl,hd⟩;have HD:=zH hd;clear hd;go_wp2_with fail
    cases hb2:isB 7 ⟨#[124]⟩ (rest P q) with
    | false=>
     refine (KZ w2 q (HPS.out.drawn HD.out) hb2).out.mono ?_;rintro e w3 ⟨rfl,h3,ht3⟩;have H3:=zH h3;have HT3:=zH (HTR.out.trans ((zdu HD.out).trans ht3));have HO3:=zH (zcg HO1.out ((zdu HD.out).trans ht3) (by rw[HPB.out];exact hpbl))
     have HN2:Hid (names (rest P p)=none):=by
      show _=_
      unfold names;rw[<-ziv znh (by decide),show isB 7 znh (rest P p)=true from HB.out,if_pos rfl,zab,HL.out]
      simp only;rw[<-ziv znh (by decide),show isB 7 znh (rest P q)=false from hb2]
      rfl
     clear h3 ht3 hb2;go_wp2_with fail
     go_ret;refine ⟨_,ts,q,true,rfl,zj8 HO3.out HNN.out (zL _) HSZ.out,by omega,H3.out,HT3.out,?_,fun _=>rfl⟩
     intro ts' r1 he;rw[HN2.out] at he;cases he
    | true=>
     refine (KY w2 q (HPS.out.drawn HD.out) hb2).out.mono ?_;rintro e w3 ⟨rfl,h3,ht3⟩;have H3:=zH h3;have HT3:=zH (HTR.out.trans ((zdu HD.out).trans ht3));have HO3:=zH (zcg HO1.out ((zdu HD.out).trans ht3) (by rw[HPB.out];exact hpbl))
     have HN2:Hid (names (rest P p)=some (ts,rest P (q+1))):=by
      show _=_
      unfold names;rw[<-ziv znh (by decide),show isB 7 znh (rest P p)=true from HB.out,if_pos rfl,zab,HL.out]
      simp only;rw[<-ziv znh (by decide),show isB 7 znh (rest P q)=true from hb2,zab]
      rfl
     clear h3 ht3 hb2;go_wp2_with fail
     go_ret;refine ⟨_,ts,q+1,bad,rfl,zj8 HO3.out HNN.out (zL _) HSZ.out,by omega,H3.out,HT3.out,?_,?_⟩
     ·intro ts' r1 he;rw[HN2.out] at he;cases he;exact ⟨rfl,rfl,rfl⟩
     ·intro he;rw[HN2.out] at he;cases he
   | true=>
    have HL:=zH (HGO.out.trans (zpa hb));have hqN':q<N:=by rw[<-HN.out];exact zkc hb
    have HX:Hid ((txt (rest P q)).size<=maxLen):=zH (Nat.le_trans (zcn HPS.out.fit) (by unfold maxLen;omega));have HB1:=zH hb;rw[hb] at K;clear hb;generalize hx:txt (rest P q)=x at *;have HXE:=zH hx;clear hx;go_wp2_with fail
    refine K.out.mono ?_;rintro e w2 ⟨rfl,hd⟩;have HD:=zH hd;clear hd;go_wp2_with fail
    refine (KN w2 q (HPS.out.drawn HD.out) HB1.out).out.mono ?_;rw[HXE.out];rintro e w3 ⟨rfl,h3,ht3⟩;have H3:=zH h3;have HT3:=zH (HTR.out.trans ((zdu HD.out).trans ht3));have HO3:=zH (zcg HO1.out ((zdu HD.out).trans ht3) (by rw[HPB.out];exact hpbl));have hg3:w.heap.size<=w3.heap.size:=HT3.out.size;clear h3 ht3;go_wp2_with (at_builtin;go_must (refine wpList_append_own _ rfl _ _ 22 rfl w.heap.size 9 i0 (.string ByteArray.empty) 1 16 Tryz.underlying22 hi hz0 hz1 hz2 rfl (by decide) _ _ _ rfl (HO3.out.alloc _) ⟨w3.heap.size,0,none⟩ 1 1 [.string x] rfl rfl ?c1 ?c2 ?c3 ?c4 ?c5 ?_))
    case c1=>exact Kit.zes _ _ _
    case c2=>exact Kit.zi5 _
    case c3=>unfold maxLen;omega
    case c4=>omega
    case c5=>simp;omega
    intro v' w4 hown' hgr hnn';have HNN':Hid (v'≠.slice none 0 0):=zH hnn';clear hnn';have HOWN:=zH hown';have HLW:=zH (zdy hg3 HO3.out hgr);clear hown' hgr;go_wp2_with fail
    go_roundw
    case rel=>
     refine ⟨ts++[x],q+1,by omega,by omega,by simp;omega,?_,HL.out,H3.out.low HLW.out HLO.out,HT3.out.low HLW.out,by simpa using HOWN.out,HNN'.out⟩
     intro y hy;rcases List.mem_append.1 hy with hy|hy
     ·exact HSZ.out y hy
     ·rw[List.mem_singleton.1 hy];exact HX.out
    case measure=>have h1:=(H3.out.low HLW.out HLO.out).plc;rw[HPB.out] at h1;rw[h1,hpl.out];omega
theorem zh9 {P:Cst} {p q:Nat} {bad b2:Bool} {ts:List ByteArray} (h1:∀ ts' r1,names (rest P p)=some (ts',r1)->ts=ts'/\rest P q=r1/\b2=bad) (h2:names (rest P p)=none->b2=true):
  (b2=false->bad=false/\names (rest P p)=some (ts,rest P q))/\(b2=true->bad=true\/names (rest P p)=none):=by
 cases hn:names (rest P p) with
 | none=>exact ⟨fun e=>by (rw[h2 hn] at e;cases e),fun _=>.inr rfl⟩
 | some y=>obtain ⟨ts',r1⟩:=y;obtain ⟨rfl,rfl,rfl⟩:=h1 _ _ hn;exact ⟨fun e=>⟨e,rfl⟩,fun e=>.inl e⟩
end Parser
end Go.Proofs.YtlmhgeanknhcfaaGreatDoor
