/-
  Tree Gram TreeOk zgy
-/
import Derived.Test.YtlmhgeanknhcfaaGreatDoorB29
namespace Go.Proofs.YtlmhgeanknhcfaaGreatDoor.Tree
open Go.RowKit
open Strs
inductive E where
 | mk (kind:Int) (text:ByteArray) (num:Int) (names:List ByteArray) (kids:List E)
namespace E
def kind:E->Int|mk k _ _ _ _=>k
def text:E->ByteArray|mk _ t _ _ _=>t
def num:E->Int|mk _ _ n _ _=>n
def names:E->List ByteArray|mk _ _ _ ns _=>ns
def kids:E->List E|mk _ _ _ _ ks=>ks
end E
instance:Inhabited E:=⟨.mk 0 ByteArray.empty 0 [] []⟩
theorem ind {P:E->Prop} (h:∀ k t n ns ks,(∀ e,e∈ks->P e)->P (.mk k t n ns ks)):∀ e,P e:=by
 intro e;refine E.rec (motive_1:=P) (motive_2:=fun l=>∀ e,e∈l->P e) ?_ ?_ ?_ e
 ·intro k t n ns ks ih;exact h k t n ns ks ih
 ·intro e he;cases he
 ·intro a l ha hl e he
  cases he with
  | head=>exact ha
  | tail _ h=>exact hl e h
mutual
def size:E->Nat
 | .mk _ _ _ _ ks=>sizes ks+1
def sizes:List E->Nat
 | []=>0
 | e::es=>size e+sizes es
end
mutual
def depth:E->Nat
 | .mk _ _ _ _ ks=>zel ks+1
def zel:List E->Nat
 | []=>0
 | e::es=>max (depth e) (zel es)
end
def lens:List ByteArray->Nat
 | []=>0
 | x::xs=>x.size+lens xs
mutual
def weight:E->Nat
 | .mk _ t _ ns ks=>t.size+(ns.length+lens ns)+(ks.length+weights ks)
def weights:List E->Nat
 | []=>0
 | e::es=>weight e+weights es
end
theorem zni (a b:List E):sizes (a++b)=sizes a+sizes b:=by
 induction a with
 | nil=>simp[sizes]
 | cons e es ih=>simp[sizes,ih];omega
theorem zlj (a b:List E):zel (a++b)=max (zel a) (zel b):=by
 induction a with
 | nil=>simp[zel]
 | cons e es ih=>simp only[zel,List.cons_append,ih];omega
theorem zbb (a b:List E):weights (a++b)=weights a+weights b:=by
 induction a with
 | nil=>simp[weights]
 | cons e es ih=>simp[weights,ih];omega
theorem zeg (a b:List ByteArray):lens (a++b)=lens a+lens b:=by
 induction a with
 | nil=>simp[lens]
 | cons e es ih=>simp[lens,ih];omega
theorem znf (ks:List E) (i:Nat) (h:i<ks.length):sizes (ks.take (i+1))=sizes (ks.take i)+size ks[i]:=by rw[List.take_succ_eq_append_getElem h,zni];simp[sizes]
theorem zkl (ks:List E) (i:Nat) (h:i<ks.length):zel (ks.take (i+1))=max (zel (ks.take i)) (depth ks[i]):=by rw[List.take_succ_eq_append_getElem h,zlj];simp[zel]
theorem zsz (ks:List E) (i:Nat) (h:i<ks.length):weights (ks.take (i+1))=weights (ks.take i)+weight ks[i]:=by rw[List.take_succ_eq_append_getElem h,zbb];simp[weights]
theorem z1t (ks:List ByteArray) (i:Nat) (h:i<ks.length):lens (ks.take (i+1))=lens (ks.take i)+ks[i].size:=by rw[List.take_succ_eq_append_getElem h,zeg];simp[lens]
theorem zsq (ks:List E) (i:Nat):sizes (ks.take i)<=sizes ks:=by
 conv=>rhs;rw[<-List.take_append_drop i ks,zni]
 omega
theorem z3r (ks:List E) (i:Nat):zel (ks.take i)<=zel ks:=by
 conv=>rhs;rw[<-List.take_append_drop i ks,zlj]
 omega
theorem zq9 (ks:List E) (i:Nat):weights (ks.take i)<=weights ks:=by
 conv=>rhs;rw[<-List.take_append_drop i ks,zbb]
 omega
theorem ya4 (ks:List ByteArray) (i:Nat):lens (ks.take i)<=lens ks:=by
 conv=>rhs;rw[<-List.take_append_drop i ks,zeg]
 omega
theorem z9o (ks:List E) (i:Nat) (h:i<ks.length):size ks[i]<=sizes ks:=by have:=znf ks i h;have:=zsq ks (i+1);omega
theorem z19 (ks:List E) (i:Nat) (h:i<ks.length):depth ks[i]<=zel ks:=by have:=zkl ks i h;have:=z3r ks (i+1);omega
theorem zd5 (ks:List E) (i:Nat) (h:i<ks.length):weight ks[i]<=weights ks:=by have:=zsz ks i h;have:=zq9 ks (i+1);omega
theorem z6s (ks:List ByteArray) (i:Nat) (h:i<ks.length):ks[i].size<=lens ks:=by have:=z1t ks i h;have:=ya4 ks (i+1);omega
theorem zpd:∀ e,size e<=weight e+1:=by
 refine ind fun k t n ns ks ih=>?_
 rw[size,weight]
 have:∀ l:List E,(∀ e,e∈l->size e<=weight e+1)->sizes l<=l.length+weights l:=by
  intro l
  induction l with
  | nil=>intro _;simp[sizes]
  | cons e es ihl=>
   intro h;have h1:=h e (by simp);have h2:=ihl fun e he=>h e (by simp[he])
   rw[sizes,weights,List.length_cons];omega
 have:=this ks ih;omega
theorem zmn:∀ e,depth e<=size e:=by
 refine ind fun k t n ns ks ih=>?_
 rw[size,depth]
 have:∀ l:List E,(∀ e,e∈l->depth e<=size e)->zel l<=sizes l:=by
  intro l
  induction l with
  | nil=>intro _;simp[zel]
  | cons e es ihl=>
   intro h;have h1:=h e (by simp);have h2:=ihl fun e he=>h e (by simp[he])
   rw[sizes,zel];omega
 have:=this ks ih;omega
def zbv (lo:Nat) (w:World) (xs:List ByteArray) (v:Value):Prop:=
 ∃ a cap,v=.slice a xs.length cap/\(xs.length<=cap/\cap<=maxLen)/\(∀ x,x∈xs->x.size<=maxLen)/\(0<xs.length->∃ b off,a=some ⟨b,off,none⟩/\lo<=b/\∀ j (h:j<xs.length),w.cell? ⟨b,off+j,none⟩=some (.string xs[j]))
mutual
def zaw (lo:Nat) (w:World):E->Value->Value->Prop
 | .mk k t n ns ks,vn,vk=>(Lit.int .i64 k).wf=true/\(Lit.int .i64 n).wf=true/\t.size<=maxLen/\zbv lo w ns vn /\
   ∃ a cap,vk=.slice a ks.length cap/\(ks.length<=cap/\cap<=maxLen)/\(0<ks.length->∃ b off,a=some ⟨b,off,none⟩/\lo<=b/\Row lo w b ks off)
def Row (lo:Nat) (w:World) (b:Nat):List E->Nat->Prop
 | [],_=>True
 | e::es,o=>(∃ vn vk,w.cell? ⟨b,o,none⟩=some (.int .i64 e.kind)/\w.cell? ⟨b,o+1,none⟩=some (.string e.text)/\w.cell? ⟨b,o+2,none⟩=some (.int .i64 e.num)/\w.cell? ⟨b,o+3,none⟩=some vn/\w.cell? ⟨b,o+4,none⟩=some vk/\zaw lo w e vn vk)/\Row lo w b es (o+5)
end
def zdh (lo:Nat) (w:World) (ks:List E) (v:Value):Prop:=
 ∃ a cap,v=.slice a ks.length cap/\(ks.length<=cap/\cap<=maxLen)/\(0<ks.length->∃ b off,a=some ⟨b,off,none⟩/\lo<=b/\Row lo w b ks off)
def yfi (lo:Nat) (w:World) (b o:Nat) (e:E):Prop:=
 ∃ vn vk,w.cell? ⟨b,o,none⟩=some (.int .i64 e.kind)/\w.cell? ⟨b,o+1,none⟩=some (.string e.text)/\w.cell? ⟨b,o+2,none⟩=some (.int .i64 e.num)/\w.cell? ⟨b,o+3,none⟩=some vn/\w.cell? ⟨b,o+4,none⟩=some vk/\zaw lo w e vn vk
def Reads (lo:Nat) (w:World) (e:E) (v:Value):Prop:=∃ vn vk,v=.agg #[.int .i64 e.kind,.string e.text,.int .i64 e.num,vn,vk]/\zaw lo w e vn vk
theorem zbn {lo:Nat} {w:World} {e:E} {vn vk:Value}:zaw lo w e vn vk↔(Lit.int .i64 e.kind).wf=true/\(Lit.int .i64 e.num).wf=true/\e.text.size<=maxLen/\zbv lo w e.names vn/\zdh lo w e.kids vk:=by
 cases e with
 | mk k t n ns ks=>rw[zaw];exact Iff.rfl
theorem row_iff {lo:Nat} {w:World} {b:Nat} (ks:List E) (o:Nat):Row lo w b ks o↔∀ i (h:i<ks.length),yfi lo w b (o+i*5) ks[i]:=by
 induction ks generalizing o with
 | nil=>simp[Row]
 | cons e es ih=>
  rw[Row,ih];constructor
  ·rintro ⟨h0,h1⟩ i hi
   cases i with
   | zero=>rw[show o+0*5=o by omega];exact h0
   | succ i=>
    have:=h1 i (by simpa using hi);rw[show o+(i+1)*5=o+5+i*5 by omega]
    simpa using this
  ·intro h
   refine ⟨?_,fun i hi=>?_⟩
   ·have h0:yfi lo w b (o+0*5) e:=h 0 (by simp)
    rw[show o+0*5=o by omega] at h0
    exact h0
   have:=h (i+1) (by simpa using hi);rw[show o+(i+1)*5=o+5+i*5 by omega] at this
   simpa using this
def Kept (lo:Nat) (w w':World):Prop:=∀ b o v,lo<=b->w.cell? ⟨b,o,none⟩=some v->w'.cell? ⟨b,o,none⟩=some v
theorem za1 {lo:Nat} {w w':World} (h:Below w.heap.size w w'):Kept lo w w':=fun _ _ _ _ hc=>cell_keep h hc
theorem Kept.trans {lo:Nat} {w w' w'':World} (h:Kept lo w w') (h':Kept lo w' w''):Kept lo w w'':=fun b o v hb hc=>h' b o v hb (h b o v hb hc)
theorem Kept.mono {lo hi:Nat} {w w':World} (h:Kept lo w w') (hl:lo<=hi):Kept hi w w':=fun b o v hb hc=>h b o v (Nat.le_trans hl hb) hc
theorem zci {lo:Nat} (w:World) (a:Addr) (v:Value) (h:a.block<lo):Kept lo w (w.setCell a v):=by intro b o u hb hc;exact (World.cell?_setCell_other _ _ _ _ (by intro e;subst e;exact absurd hb (by show ¬lo<=b;exact Nat.not_le.2 h))).trans hc
theorem zbv.keep {lo hi:Nat} {w w':World} {xs:List ByteArray} {v:Value} (h:zbv hi w xs v) (hl:lo<=hi) (hk:Kept hi w w'):zbv lo w' xs v:=by
 obtain ⟨a,cap,rfl,hm,hs,hc⟩:=h;refine ⟨a,cap,rfl,hm,hs,fun hp=>?_⟩
 obtain ⟨b,off,rfl,hb,hd⟩:=hc hp;exact ⟨b,off,rfl,Nat.le_trans hl hb,fun j hj=>hk _ _ _ hb (hd j hj)⟩
theorem zaw.keep {lo hi:Nat} {w w':World} (hl:lo<=hi) (hk:Kept hi w w'):∀ e vn vk,zaw hi w e vn vk->zaw lo w' e vn vk:=by
 refine ind fun k t n ns ks ih=>?_
 intro vn vk h;rw[zbn] at h ⊢;obtain ⟨h1,h2,h3,h4,a,cap,rfl,hm,hc⟩:=h;refine ⟨h1,h2,h3,h4.keep hl hk,a,cap,rfl,hm,fun hp=>?_⟩
 obtain ⟨b,off,rfl,hb,hr⟩:=hc hp;refine ⟨b,off,rfl,Nat.le_trans hl hb,?_⟩;rw[row_iff] at hr ⊢;intro i hi;obtain ⟨wn,wk,c0,c1,c2,c3,c4,hn⟩:=hr i hi;exact ⟨wn,wk,hk _ _ _ hb c0,hk _ _ _ hb c1,hk _ _ _ hb c2,hk _ _ _ hb c3,hk _ _ _ hb c4,ih _ (List.getElem_mem _) _ _ hn⟩
theorem zdh.keep {lo hi:Nat} {w w':World} {ks:List E} {v:Value} (h:zdh hi w ks v) (hl:lo<=hi) (hk:Kept hi w w'):zdh lo w' ks v:=by
 obtain ⟨a,cap,rfl,hm,hc⟩:=h;refine ⟨a,cap,rfl,hm,fun hp=>?_⟩
 obtain ⟨b,off,rfl,hb,hr⟩:=hc hp;refine ⟨b,off,rfl,Nat.le_trans hl hb,?_⟩;rw[row_iff] at hr ⊢;intro i hi;obtain ⟨wn,wk,c0,c1,c2,c3,c4,hn⟩:=hr i hi;exact ⟨wn,wk,hk _ _ _ hb c0,hk _ _ _ hb c1,hk _ _ _ hb c2,hk _ _ _ hb c3,hk _ _ _ hb c4,zaw.keep hl hk _ _ _ hn⟩
theorem Reads.keep {lo hi:Nat} {w w':World} {e:E} {v:Value} (h:Reads hi w e v) (hl:lo<=hi) (hk:Kept hi w w'):Reads lo w' e v:=by obtain ⟨vn,vk,rfl,hn⟩:=h;exact ⟨vn,vk,rfl,zaw.keep hl hk _ _ _ hn⟩
theorem Reads.below {lo:Nat} {w w':World} {e:E} {v:Value} (h:Reads lo w e v) (hb:Below w.heap.size w w'):Reads lo w' e v:=h.keep (zL _) (za1 hb)
theorem zaw.below {lo:Nat} {w w':World} {e:E} {vn vk:Value} (h:zaw lo w e vn vk) (hb:Below w.heap.size w w'):zaw lo w' e vn vk:=zaw.keep (zL _) (za1 hb) _ _ _ h
theorem zdh.below {lo:Nat} {w w':World} {ks:List E} {v:Value} (h:zdh lo w ks v) (hb:Below w.heap.size w w'):zdh lo w' ks v:=h.keep (zL _) (za1 hb)
theorem zbv.below {lo:Nat} {w w':World} {xs:List ByteArray} {v:Value} (h:zbv lo w xs v) (hb:Below w.heap.size w w'):zbv lo w' xs v:=h.keep (zL _) (za1 hb)
end Go.Proofs.YtlmhgeanknhcfaaGreatDoor.Tree
namespace Go.Proofs.YtlmhgeanknhcfaaGreatDoor.Gram
open Tree
abbrev R:=List Tok.T
def ziu:ByteArray:=⟨#[58]⟩
def znh:ByteArray:=⟨#[124]⟩
def zqf:ByteArray:=⟨#[94]⟩
def zvj:ByteArray:=⟨#[46]⟩
def zhd:ByteArray:=⟨#[59]⟩
def zgs:ByteArray:=⟨#[40]⟩
def zle:ByteArray:=⟨#[41]⟩
def zhc:ByteArray:=⟨#[91]⟩
def znw:ByteArray:=⟨#[93]⟩
def zuh:ByteArray:=⟨#[58,61]⟩
def none_:ByteArray:=⟨#[]⟩
def hd (k:Int):R->Bool
 | []=>false
 | t::_=>decide (t.kind=k)
def mk (c:ByteArray):R->Bool
 | []=>false
 | t::_=>decide (t.kind=7)&&decide (t.text=c)
def txt:R->ByteArray
 | []=>none_
 | t::_=>t.text
def z0l (s:ByteArray):E:=.mk 4 s 0 [] []
def zec (e:E) (s:ByteArray) (args:List E):E:=.mk 6 s 0 [] (e::args)
def zis (s:ByteArray) (args:List E):E:=.mk 6 s 0 [] args
def ziw (ps ts:List ByteArray) (body:List E):E:=.mk 8 none_ ps.length (ps++ts) body
abbrev X:=R->Option (E×R)
def zdn:E->Bool->R->E×Bool×R
 | e,s,[]=>(e,s,[])
 | e,s,t::r=>if t.kind=1 then zdn (zec e t.text []) true r else (e,s,t::r)
def zcb (ps:List ByteArray):R->Option (List ByteArray×R)
 | []=>some (ps,[])
 | [t]=>if mk ziu [t] then none else some (ps,[t])
 | t::u::r=>if mk ziu [t] then (if u.kind=1 then zcb (ps++[u.text]) r else none) else some (ps,t::u::r)
def zbx (ts:List ByteArray):R->List ByteArray×R
 | []=>(ts,[])
 | t::r=>if t.kind=1 then zbx (ts++[t.text]) r else (ts,t::r)
def names (r:R):Option (List ByteArray×R):=
 if mk znh r then (let x:=zbx [] r.tail;if mk znh x.2 then some (x.1,x.2.tail) else none) else some ([],r)
def begins:R->Bool
 | []=>false
 | t::_=>(decide (1<=t.kind/\t.kind<=5)&&decide (t.kind≠2))||(decide (t.kind=7)&&(decide (t.text=zgs)||decide (t.text=zhc)||decide (t.text=zqf)))
section
variable (ex:X)
def zby (body:List E) (r:R):Option (List E×R):=
 if begins r then
  if mk zqf r then
   match ex r.tail with
   | none=>none
   | some (e,r1)=>some (body++[.mk 9 none_ 0 [] [e]],if mk zvj r1 then r1.tail else r1)
  else
   match ex r with
   | none=>none
   | some (e,r1)=>if mk zvj r1 then (if _h:r1.tail.length<r.length then zby (body++[e]) r1.tail else none) else some (body++[e],r1)
 else some (body,r)
 termination_by r.length
 decreasing_by first|assumption|simpa using _h
def block (r:R):Option (E×R):=
 match zcb [] r with
 | none=>none
 | some (ps,r1)=>
  if ps.length=0\/mk znh r1=true then
   match names (if ps.length=0 then r1 else r1.tail) with
   | none=>none
   | some (ts,r2)=>
    match zby ex [] r2 with
    | none=>none
    | some (body,r3)=>if mk znw r3 then some (ziw ps ts body,r3.tail) else none
  else none
def zbf:R->Option (E×R)
 | []=>none
 | t::r=>
  if t.kind=1 then some (z0l t.text,r)
  else if t.kind=3 then some (.mk 1 none_ t.num [] [],r)
  else if t.kind=4 then some (.mk 2 t.text 0 [] [],r)
  else if t.kind=5 then some (.mk 3 t.text 0 [] [],r)
  else if mk zgs [t] then (match ex r with|none=>none|some (e,r1)=>if mk zle r1 then some (e,r1.tail) else none)
  else if mk zhc [t] then block ex r
  else none
def unary (r:R):Option (E×Bool×R):=
 match zbf ex r with
 | none=>none
 | some (e,r1)=>some (zdn e false r1)
def zc3 (e:E) (s:Bool) (r:R):Option (E×Bool×R):=
 if hd 6 r then
  match unary ex r.tail with
  | none=>none
  | some (a,_,r1)=>if _h:r1.length<r.length then zc3 (zec e (txt r) [a]) true r1 else none
 else some (e,s,r)
 termination_by r.length
 decreasing_by first|assumption|simpa using _h
def binary (r:R):Option (E×Bool×R):=
 match unary ex r with
 | none=>none
 | some (e,s,r1)=>zc3 ex e s r1
def zbe (sel:ByteArray) (args:List E) (r:R):Option (ByteArray×List E×R):=
 if hd 2 r then
  match binary ex r.tail with
  | none=>none
  | some (a,_,r1)=>if _h:r1.length<r.length then zbe (sel++txt r) (args++[a]) r1 else none
 else some (sel,args,r)
 termination_by r.length
 decreasing_by first|assumption|simpa using _h
def message (r:R):Option (E×R):=
 if hd 1 r then some (zis (txt r) [],r.tail)
 else if hd 6 r then (match unary ex r.tail with|none=>none|some (a,_,r1)=>some (zis (txt r) [a],r1))
 else match zbe ex none_ [] r with
  | none=>none
  | some (sel,args,r1)=>if sel.size=0 then none else some (zis sel args,r1)
def zcm (kids:List E) (r:R):Option (List E×R):=
 if mk zhd r then
  match message ex r.tail with
  | none=>none
  | some (m,r1)=>if _h:r1.length<r.length then zcm (kids++[m]) r1 else none
 else some (kids,r)
 termination_by r.length
 decreasing_by first|assumption|simpa using _h
def zc5 (e:E) (s:Bool) (r:R):Option (E×R):=
 if mk zhd r then
  if s then
   match zcm ex [e.kids.headD default,.mk 6 e.text 0 [] e.kids.tail] r with
   | none=>none
   | some (ks,r1)=>some (.mk 7 none_ 0 [] ks,r1)
  else none
 else some (e,r)
def zgd (r:R):Option (E×R):=
 if hd 1 r&&mk zuh r.tail then
  match ex r.tail.tail with
  | none=>none
  | some (e,r1)=>some (.mk 5 (txt r) 0 [] [e],r1)
 else
  match binary ex r with
  | none=>none
  | some (e,s,r1)=>
   match zbe ex none_ [] r1 with
   | none=>none
   | some (sel,args,r2)=>if sel.size=0 then zc5 ex e s r2 else zc5 ex (zec e sel args) true r2
end
def expr:Nat->X
 | 0=>fun _=>none
 | n+1=>zgd (expr n)
def zcz (ex:X):Prop:=∀ r e r1,ex r=some (e,r1)->r1.length<r.length
theorem zmj:∀ (r:R) (e:E) (s:Bool),(zdn e s r).2.2.length<=r.length
 | [],_,_=>zL _
 | t::r,e,s=>by
  rw[zdn]
  split
  ·have:=zmj r (zec e t.text []) true;simp;omega
  ·exact zL _
theorem zm4:∀ (r:R) (ps ps':List ByteArray) (r1:R),zcb ps r=some (ps',r1)->r1.length<=r.length
 | [],ps,ps',r1,h=>by rw[zcb] at h;cases h;exact zL _
 | [t],ps,ps',r1,h=>by
  rw[zcb] at h
  split at h
  ·cases h
  ·cases h;exact zL _
 | t::u::r,ps,ps',r1,h=>by
  rw[zcb] at h
  split at h
  ·split at h
   ·have:=zm4 r _ _ _ h;simp;omega
   ·cases h
  ·cases h;exact zL _
theorem zkn:∀ (r:R) (ts:List ByteArray),(zbx ts r).2.length<=r.length
 | [],_=>zL _
 | t::r,ts=>by
  rw[zbx]
  split
  ·have:=zkn r (ts++[t.text]);simp;omega
  ·exact zL _
theorem zhp {c:ByteArray} {r:R} (h:mk c r=true):r.tail.length<r.length:=by
 cases r with
 | nil=>cases h
 | cons t r=>simp
theorem zk3 {k:Int} {r:R} (h:hd k r=true):r.tail.length<r.length:=by
 cases r with
 | nil=>cases h
 | cons t r=>simp
theorem zmq (r:R):r.tail.length<=r.length:=by simp
theorem zmk {r:R} {ts:List ByteArray} {r1:R} (h:names r=some (ts,r1)):r1.length<=r.length:=by
 unfold names at h
 split at h
 ·rename_i hb
  have h1:=zkn r.tail [];have h2:=zhp hb;simp only at h
  split at h
  ·rename_i hb2
   have h3:=zhp hb2;cases h;omega
  ·cases h
 ·cases h;exact zL _
section
variable {ex:X}
theorem ztb (hx:zcz ex):∀ (m:Nat) (r:R) (body body':List E) (r1:R),r.length<=m->zby ex body r=some (body',r1)->r1.length<=r.length:=by
 intro m
 induction m with
 | zero=>intro r body body' r1 hm h;have:r=[]:=List.eq_nil_of_length_eq_zero (by omega);subst this;rw[zby] at h;simp[begins] at h;rw[<-h.2];exact zL _
 | succ m ih=>
  intro r body body' r1 hm h;rw[zby] at h
  split at h
  ·split at h
   ·rename_i hh
    have h2:=zhp hh
    split at h
    ·cases h
    ·rename_i e r2 he
     have h3:=hx _ _ _ he;simp only[Option.some.injEq,Prod.mk.injEq] at h;rw[<-h.2]
     split
     ·have:=zmq r2;omega
     ·omega
   ·split at h
    ·cases h
    ·rename_i e r2 he
     have h3:=hx _ _ _ he
     split at h
     ·split at h
      ·rename_i hlt
       have:=ih r2.tail _ _ _ (by omega) h;omega
      ·cases h
     ·cases h;omega
  ·cases h;exact zL _
theorem block_lt (hx:zcz ex) {r:R} {e:E} {r1:R} (h:block ex r=some (e,r1)):r1.length<r.length:=by
 unfold block at h
 split at h
 ·cases h
 ·rename_i ps r2 hp
  have h1:=zm4 _ _ _ _ hp
  split at h
  ·split at h
   ·cases h
   ·rename_i ts r3 hn
    have h2:=zmk hn
    have h3:(if ps.length=0 then r2 else r2.tail).length<=r2.length:=by
     split
     ·exact zL _
     ·exact zmq _
    split at h
    ·cases h
    ·rename_i body r4 hs
     have h4:=ztb hx _ _ _ _ _ (zL _) hs
     split at h
     ·rename_i hr
      have h5:=zhp hr;cases h;omega
     ·cases h
  ·cases h
theorem zm3 (hx:zcz ex) {r:R} {e:E} {r1:R} (h:zbf ex r=some (e,r1)):r1.length<r.length:=by
 cases r with
 | nil=>cases h
 | cons t r=>
  rw[zbf] at h
  split at h
  ·cases h;simp
  split at h
  ·cases h;simp
  split at h
  ·cases h;simp
  split at h
  ·cases h;simp
  split at h
  ·split at h
   ·cases h
   ·rename_i e' r2 he
    have h1:=hx _ _ _ he
    split at h
    ·rename_i hr
     have h5:=zhp hr;cases h;simp;omega
    ·cases h
  split at h
  ·have:=block_lt hx h;simp;omega
  ·cases h
theorem zhn (hx:zcz ex) {r:R} {e:E} {s:Bool} {r1:R} (h:unary ex r=some (e,s,r1)):r1.length<r.length:=by
 unfold unary at h
 split at h
 ·cases h
 ·rename_i e' r2 hp
  have h1:=zm3 hx hp;have h2:=zmj r2 e' false;simp only[Option.some.injEq] at h;rw[h] at h2;simp at h2;omega
theorem zm8:∀ (m:Nat) (r:R) (e e':E) (s s':Bool) (r1:R),r.length<=m->zc3 ex e s r=some (e',s',r1)->r1.length<=r.length:=by
 intro m
 induction m with
 | zero=>intro r e e' s s' r1 hm h;have:r=[]:=List.eq_nil_of_length_eq_zero (by omega);subst this;rw[zc3] at h;simp[hd] at h;rw[<-h.2.2];exact zL _
 | succ m ih=>
  intro r e e' s s' r1 hm h;rw[zc3] at h
  split at h
  ·split at h
   ·cases h
   ·split at h
    ·rename_i hlt
     have:=ih _ _ _ _ _ _ (by omega) h;omega
    ·cases h
  ·cases h;exact zL _
theorem zi4 (hx:zcz ex) {r:R} {e:E} {s:Bool} {r1:R} (h:binary ex r=some (e,s,r1)):r1.length<r.length:=by
 unfold binary at h
 split at h
 ·cases h
 ·rename_i e' s' r2 hu
  have h1:=zhn hx hu;have h2:=zm8 _ _ _ _ _ _ _ (zL _) h;omega
theorem zjq:∀ (m:Nat) (r:R) (s s':ByteArray) (xs xs':List E) (r1:R),r.length<=m->zbe ex s xs r=some (s',xs',r1)->r1.length<=r.length:=by
 intro m
 induction m with
 | zero=>intro r s s' xs xs' r1 hm h;have:r=[]:=List.eq_nil_of_length_eq_zero (by omega);subst this;rw[zbe] at h;simp[hd] at h;rw[<-h.2.2];exact zL _
 | succ m ih=>
  intro r s s' xs xs' r1 hm h;rw[zbe] at h
  split at h
  ·split at h
   ·cases h
   ·split at h
    ·rename_i hlt
     have:=ih _ _ _ _ _ _ (by omega) h;omega
    ·cases h
  ·cases h;exact zL _
theorem zfw (hx:zcz ex) {r:R} {e:E} {r1:R} (h:message ex r=some (e,r1)):r1.length<r.length:=by
 unfold message at h
 split at h
 ·rename_i hh
  have:=zk3 hh;cases h;omega
 ·split at h
  ·rename_i hh
   have:=zk3 hh
   split at h
   ·cases h
   ·rename_i a s r2 hu
    have h2:=zhn hx hu;cases h;omega
  ·split at h
   ·cases h
   ·rename_i sel args r2 hk
    split at h
    ·cases h
    ·rename_i hsel
     rw[zbe] at hk
     split at hk
     ·rename_i hh
      have h0:=zk3 hh
      split at hk
      ·cases hk
      ·split at hk
       ·rename_i hlt
        have:=zjq _ _ _ _ _ _ _ (zL _) hk;cases h;omega
       ·cases hk
     ·cases hk
      exact absurd rfl hsel
theorem zz6:∀ (m:Nat) (r:R) (ks ks':List E) (r1:R),r.length<=m->zcm ex ks r=some (ks',r1)->r1.length<=r.length:=by
 intro m
 induction m with
 | zero=>intro r ks ks' r1 hm h;have:r=[]:=List.eq_nil_of_length_eq_zero (by omega);subst this;rw[zcm] at h;simp[mk] at h;rw[<-h.2];exact zL _
 | succ m ih=>
  intro r ks ks' r1 hm h;rw[zcm] at h
  split at h
  ·split at h
   ·cases h
   ·split at h
    ·rename_i hlt
     have:=ih _ _ _ _ (by omega) h;omega
    ·cases h
  ·cases h;exact zL _
theorem zre {e:E} {s:Bool} {r:R} {e':E} {r1:R} (h:zc5 ex e s r=some (e',r1)):r1.length<=r.length:=by
 unfold zc5 at h
 split at h
 ·split at h
  ·split at h
   ·cases h
   ·rename_i ks r2 hc
    have:=zz6 _ _ _ _ _ (zL _) hc;cases h;omega
  ·cases h
 ·cases h;exact zL _
theorem zws (hx:zcz ex):zcz (zgd ex):=by
 intro r e r1 h;unfold zgd at h
 split at h
 ·rename_i hh
  rw[Bool.and_eq_true] at hh;have h1:=zk3 hh.1;have h2:=zmq r.tail
  split at h
  ·cases h
  ·rename_i e' r2 he
   have h3:=hx _ _ _ he;cases h;omega
 ·split at h
  ·cases h
  ·rename_i e' s r2 hb
   have h1:=zi4 hx hb
   split at h
   ·cases h
   ·rename_i sel args r3 hk
    have h2:=zjq _ _ _ _ _ _ _ (zL _) hk
    split at h
    ·have:=zre h;omega
    ·have:=zre h;omega
end
theorem zau:∀ n,zcz (expr n)
 | 0=>fun _ _ _ h=>by cases h
 | n+1=>zws (zau n)
end Go.Proofs.YtlmhgeanknhcfaaGreatDoor.Gram
namespace Go.Proofs.YtlmhgeanknhcfaaGreatDoor.Tree
def isText (s:ByteArray):Bool:=s.data.toList.all (fun b=>32<=b.toNat&&b.toNat<=126)&&decide (s.size<=40)
def node (k:Int) (t:ByteArray) (n:Int) (ns:List ByteArray) (len:Nat) (ms:Bool):Bool:=
 if (k≠8/\0<ns.length)\/(k≠1/\k≠8/\n≠0) then false
 else if k=1 then decide (t.size=0)&&(decide (0<=n/\n<=999999999)&&decide (len=0))
 else if k=2 then isText t&&decide (len=0)
 else if k=3 then Tok.sel t&&decide (len=0)
 else if k=4 then Tok.za3 t&&decide (len=0)
 else if k=5 then Tok.za3 t&&decide (len=1)
 else if k=6 then decide ((len:Int)=Tok.zar t+1)&&decide (0<len)
 else if k=7 then decide (t.size=0)&&(decide (3<=len)&&ms)
 else if k=8 then ns.all Tok.za3&&(decide (t.size=0)&&decide (0<=n/\n<=(ns.length:Int)))
 else if k=9 then decide (t.size=0)&&decide (len=1)
 else false
mutual
def right:E->Bool->Bool
 | .mk k t n ns ks,st=>node k t n ns ks.length (zhv ks)&&(decide (k≠9)||st)&&(if k=7 then znt ks else zc7 (decide (k=8)) ks)
def zc7 (b:Bool):List E->Bool
 | []=>true
 | e::es=>(right e b&&(!(b&&decide (e.kind=9))||es.isEmpty))&&zc7 b es
def znt:List E->Bool
 | []=>true
 | e::_=>right e false
def zhv:List E->Bool
 | []=>true
 | _::es=>zyn es
def zyn:List E->Bool
 | []=>true
 | .mk k t n ns ks::ms=>(decide (k=6)&&decide (n=0)&&decide (ns.length=0)&&decide (0<=Tok.zar t)&&decide ((ks.length:Int)=Tok.zar t)&&zc7 false ks)&&zyn ms
end
def zdm (e:E):Bool:=decide (size e<=300)&&decide (depth e<=25)&&right e true
theorem z0b (b:Bool) (ks:List E):zc7 b ks=true↔∀ i (h:i<ks.length),right ks[i] b=true/\¬(b=true/\ks[i].kind=9/\i+1<ks.length):=by
 induction ks with
 | nil=>simp[zc7]
 | cons e es ih=>
  rw[zc7,Bool.and_eq_true,ih];constructor
  ·rintro ⟨h0,h1⟩ i hi
   cases i with
   | zero=>
    simp at h0;refine ⟨h0.1,?_⟩;rintro ⟨hb,hk,hl⟩;rcases h0.2 with (h|h)|h
    ·rw[hb] at h;cases h
    ·exact h hk
    ·subst h;simp at hl
   | succ i=>
    have:=h1 i (by simpa using hi)
    simpa using this
  ·intro h
   refine ⟨?_,fun i hi=>?_⟩
   ·have h0:=h 0 (by simp)
    simp at h0;simp[h0.1];cases es with
    | nil=>simp
    | cons x xs=>cases b<;>simp_all
   ·have:=h (i+1) (by simpa using hi)
    simpa using this
theorem zjf (ks:List E):zc7 false ks=ks.all (fun e=>right e false):=by
 induction ks with
 | nil=>rfl
 | cons e es ih=>rw[zc7,ih];simp
def msg (m:E):Bool:=decide (m.kind=6)&&decide (m.num=0)&&decide (m.names.length=0)&&decide (0<=Tok.zar m.text)&&decide ((m.kids.length:Int)=Tok.zar m.text)&&zc7 false m.kids
theorem zyi (ms:List E):zyn ms=ms.all msg:=by
 induction ms with
 | nil=>rfl
 | cons m ms ih=>cases m with|mk k t n ns ks=>rw[zyn,ih];rfl
end Go.Proofs.YtlmhgeanknhcfaaGreatDoor.Tree
namespace Go.Proofs.YtlmhgeanknhcfaaGreatDoor.zgy
open Go.RowKit
open Strs Tree PMap
mutual
def zgy (lo:Nat) (w:World):E->Value->Prop
 | .mk _ _ _ _ ks,vk=>∃ a cap,vk=.slice a ks.length cap/\(0<ks.length->∃ b off,a=some ⟨b,off,none⟩/\lo<=b/\(∀ o,w.frozen? ⟨b,o,none⟩=false)/\zmm lo w b ks off)
def zmm (lo:Nat) (w:World) (b:Nat):List E->Nat->Prop
 | [],_=>True
 | e::es,o=>(∃ vk,w.cell? ⟨b,o+4,none⟩=some vk/\zgy lo w e vk)/\zmm lo w b es (o+5)
end
def zea (lo:Nat) (w:World) (ks:List E) (vk:Value):Prop:=
 ∃ a cap,vk=.slice a ks.length cap/\(0<ks.length->∃ b off,a=some ⟨b,off,none⟩/\lo<=b/\(∀ o,w.frozen? ⟨b,o,none⟩=false)/\zmm lo w b ks off)
theorem zhj {lo:Nat} {w:World} {e:E} {vk:Value}:zgy lo w e vk↔zea lo w e.kids vk:=by
 cases e with
 | mk k t n ns ks=>rw[zgy];exact Iff.rfl
theorem zg4 {lo:Nat} {w:World} {b:Nat} (ks:List E) (o:Nat):zmm lo w b ks o↔∀ i (h:i<ks.length),∃ vk,w.cell? ⟨b,o+i*5+4,none⟩=some vk/\zgy lo w ks[i] vk:=by
 induction ks generalizing o with
 | nil=>simp[zmm]
 | cons e es ih=>
  rw[zmm,ih];constructor
  ·rintro ⟨h0,h1⟩ i hi
   cases i with
   | zero=>rw[show o+0*5+4=o+4 by omega];exact h0
   | succ i=>
    have:=h1 i (by simpa using hi);rw[show o+(i+1)*5+4=o+5+i*5+4 by omega]
    simpa using this
  ·intro h
   refine ⟨?_,fun i hi=>?_⟩
   ·have h0:=h 0 (by simp)
    rw[show o+0*5+4=o+4 by omega] at h0
    exact h0
   have:=h (i+1) (by simpa using hi);rw[show o+(i+1)*5+4=o+5+i*5+4 by omega] at this
   simpa using this
def zvu (lo:Nat) (w w':World):Prop:=Kept lo w w'/\∀ b o,lo<=b->(∃ o' v,w.cell? ⟨b,o',none⟩=some v)->w.frozen? ⟨b,o,none⟩=false->w'.frozen? ⟨b,o,none⟩=false
theorem zib {lo:Nat} {w w':World} (h:Below w.heap.size w w'):zvu lo w w':=
 ⟨za1 h,fun b o _ ⟨_,_,hc⟩ hf=>(h.frozen (p:=⟨b,o,none⟩) (show b<_ from cell_lt hc)).trans hf⟩
theorem zvu.trans {lo:Nat} {w w' w'':World} (h:zvu lo w w') (h':zvu lo w' w''):zvu lo w w'':=
 ⟨h.1.trans h'.1,fun b o hb ⟨o',v,hc⟩ hf=>h'.2 b o hb ⟨o',v,h.1 _ _ _ hb hc⟩ (h.2 b o hb ⟨o',v,hc⟩ hf)⟩
theorem zgy.keep {lo hi:Nat} {w w':World} (hl:lo<=hi) (hk:zvu hi w w'):∀ e vk,zgy hi w e vk->zgy lo w' e vk:=by
 refine ind fun k t n ns ks ih=>?_
 intro vk h;rw[zhj] at h ⊢;obtain ⟨a,cap,rfl,hc⟩:=h;refine ⟨a,cap,rfl,fun hp=>?_⟩
 obtain ⟨b,off,rfl,hb,hf,hr⟩:=hc hp;rw[zg4] at hr;refine ⟨b,off,rfl,Nat.le_trans hl hb,fun o=>?_,?_⟩
 ·obtain ⟨vk,hc,_⟩:=hr 0 hp
  exact hk.2 b o hb ⟨_,_,hc⟩ (hf o)
 ·rw[zg4]
  intro i hi;obtain ⟨vk,hc,hs⟩:=hr i hi;exact ⟨vk,hk.1 _ _ _ hb hc,ih _ (List.getElem_mem _) _ hs⟩
theorem zea.keep {lo hi:Nat} {w w':World} {ks:List E} {vk:Value} (h:zea hi w ks vk) (hl:lo<=hi) (hk:zvu hi w w'):zea lo w' ks vk:=by have:=zgy.keep hl hk (.mk 0 ByteArray.empty 0 [] ks) vk (zhj.2 h);exact zhj.1 this
def Nd (w:World) (a:Addr) (e:E):Prop:=
 a.spot=none/\(∀ o,w.frozen? ⟨a.block,o,none⟩=false)/\∃ vn vk,w.cell? ⟨a.block,a.off,none⟩=some (.int .i64 e.kind)/\w.cell? ⟨a.block,a.off+1,none⟩=some (.string e.text)/\w.cell? ⟨a.block,a.off+2,none⟩=some (.int .i64 e.num) /\
  w.cell? ⟨a.block,a.off+3,none⟩=some vn/\w.cell? ⟨a.block,a.off+4,none⟩=some vk/\zaw 0 w e vn vk/\zgy 0 w e vk
theorem Nd.fine {w:World} {a:Addr} {e:E} (h:Nd w a e):zix w a:=by obtain ⟨b,o,s⟩:=a;obtain ⟨h1,h2,vn,vk,h3,_⟩:=h;simp only at h1;subst h1;exact ⟨rfl,⟨_,h3⟩,h2⟩
theorem Nd.keep {w w':World} {a:Addr} {e:E} (h:Nd w a e) (hb:Below w.heap.size w w'):Nd w' a e:=by obtain ⟨h1,h2,vn,vk,c0,c1,c2,c3,c4,hn,hs⟩:=h;exact ⟨h1,fun o=>(hb.frozen (p:=⟨a.block,o,none⟩) (show a.block<_ from cell_lt (a:=⟨a.block,a.off,none⟩) c0)).trans (h2 o),vn,vk,cell_keep hb c0,cell_keep hb c1,cell_keep hb c2,cell_keep hb c3,cell_keep hb c4,hn.below hb,zgy.keep (zL _) (zib hb) _ _ hs⟩
def kid (w:World) (a:Addr) (i:Nat):Addr:=
 match w.cell? ⟨a.block,a.off+4,none⟩ with
 | some (.slice (some x) _ _)=>⟨x.block,x.off+i*5,none⟩
 | _=>a
theorem Nd.zrd {w:World} {a:Addr} {e:E} (h:Nd w a e) {i:Nat} (hi:i<e.kids.length):Nd w (kid w a i) e.kids[i]:=by obtain ⟨h1,h2,vn,vk,c0,c1,c2,c3,c4,hn,hs⟩:=h;obtain ⟨-,-,-,-,x,cap,rfl,-,hc⟩:=zbn.1 hn;obtain ⟨b,off,rfl,-,hr⟩:=hc (by omega);obtain ⟨x',cap',he,hc'⟩:=zhj.1 hs;cases he;obtain ⟨b',off',hx,-,hf,hr'⟩:=hc' (by omega);cases hx;obtain ⟨wn,wk,d0,d1,d2,d3,d4,hm⟩:=(row_iff _ _).1 hr i hi;obtain ⟨wk',d4',hs'⟩:=(zg4 _ _).1 hr' i hi;rw[d4] at d4';cases d4';unfold kid;rw[c4];exact ⟨rfl,hf,wn,wk,d0,d1,d2,d3,d4,hm,hs'⟩
theorem Nd.see {w:World} {a:Addr} {e:E} (h:Nd w a e):∃ b o vn x cap,a=⟨b,o,none⟩/\w.cell? ⟨b,o,none⟩=some (.int .i64 e.kind)/\w.cell? ⟨b,o+1,none⟩=some (.string e.text)/\w.cell? ⟨b,o+2,none⟩=some (.int .i64 e.num) /\
  w.cell? ⟨b,o+3,none⟩=some vn/\w.cell? ⟨b,o+4,none⟩=some (.slice x e.kids.length cap)/\e.kids.length<=cap/\cap<=maxLen/\zbv 0 w e.names vn/\e.text.size<=maxLen/\(Lit.int .i64 e.kind).wf=true/\(Lit.int .i64 e.num).wf=true /\
  ∀ i,i<e.kids.length->∃ kb ko,x=some ⟨kb,ko,none⟩/\kid w a i=⟨kb,ko+i*5,none⟩:=by
 obtain ⟨b,o,s⟩:=a;obtain ⟨h1,h2,vn,vk,c0,c1,c2,c3,c4,hn,hs⟩:=h;simp only at h1 c0 c1 c2 c3 c4;subst h1;obtain ⟨n1,n2,n3,n4,x,cap,rfl,hm,hc⟩:=zbn.1 hn;refine ⟨b,o,vn,x,cap,rfl,c0,c1,c2,c3,c4,hm.1,hm.2,n4,n3,n1,n2,fun i hi=>?_⟩
 obtain ⟨kb,ko,rfl,-,-⟩:=hc (by omega);refine ⟨kb,ko,rfl,?_⟩;unfold kid;rw[c4]
theorem z1r {lo lo':Nat} {w:World} {xs ys:List ByteArray} {v:Value} (h:zbv lo w xs v) (h':zbv lo' w ys v):xs=ys:=by
 obtain ⟨a,cap,rfl,-,-,hc⟩:=h;obtain ⟨a',cap',he,-,-,hc'⟩:=h';simp only[Value.slice.injEq] at he;obtain ⟨rfl,hl,rfl⟩:=he;apply List.ext_getElem hl;intro i h1 h2;obtain ⟨b,off,rfl,-,hd⟩:=hc (by omega);obtain ⟨b',off',hx,-,hd'⟩:=hc' (by omega);cases hx;have e1:=hd i h1;have e2:=hd' i h2;rw[e1] at e2
 injection e2 with e3
 injection e3
theorem Nd.one {w:World}:∀ (e:E) {a:Addr} {e':E},Nd w a e->Nd w a e'->e=e':=by
 refine ind fun k t n ns ks ih=>?_
 intro a e' h h';have hk:=fun i=>h.zrd (i:=i)
 have hk':=fun i=>h'.zrd (i:=i)
 obtain ⟨-,-,vn,vk,c0,c1,c2,c3,c4,hn,-⟩:=h;obtain ⟨-,-,vn',vk',c0',c1',c2',c3',c4',hn',-⟩:=h';obtain ⟨k',t',n',ns',ks'⟩:=e';simp only[E.kind,E.text,E.num,E.kids] at *;rw[c0] at c0';rw[c1] at c1';rw[c2] at c2';rw[c3] at c3';rw[c4] at c4';cases c0';cases c1';cases c2';cases c3';cases c4';obtain ⟨-,-,-,hx,y,cap,rfl,-,-⟩:=zbn.1 hn;obtain ⟨-,-,-,hx',y',cap',he,-,-⟩:=zbn.1 hn';obtain rfl:=z1r hx hx'
 simp only[Value.slice.injEq] at he;obtain ⟨rfl,hl,rfl⟩:=he;simp only[E.kids,E.names] at *
 congr 1
 apply List.ext_getElem hl;intro i h1 h2;exact ih _ (List.getElem_mem h1) (hk i h1) (hk' i h2)
noncomputable def zd3 (w:World) (a:Addr):E:=@dite _ (∃ e,Nd w a e) (Classical.propDecidable _) (fun h=>h.choose) (fun _=>default)
theorem Nd.tree {w:World} {a:Addr} {e:E} (h:Nd w a e):zd3 w a=e:=by unfold zd3;rw[dif_pos ⟨e,h⟩];exact Nd.one _ (Exists.choose_spec (⟨e,h⟩:∃ e,Nd w a e)) h
theorem z8x {w:World} {lo:Nat} {e:E} {vn vk:Value} (hn:zaw lo w e vn vk) (hs:zgy lo w e vk) (T:TypeId):
  Nd (w.alloc (.cells #[.int .i64 e.kind,.string e.text,.int .i64 e.num,vn,vk] T)) ⟨w.heap.size,0,none⟩ e:=by
 have hb:Below w.heap.size w (w.alloc (.cells #[.int .i64 e.kind,.string e.text,.int .i64 e.num,vn,vk] T)):=(zB _ _).alloc (zL _) _;refine ⟨rfl,fun o=>by go_simp,vn,vk,?_,?_,?_,?_,?_,zaw.keep (Nat.zero_le _) (za1 hb) _ _ _ hn,zgy.keep (Nat.zero_le _) (zib hb) _ _ hs⟩
 all_goals go_simp
end Go.Proofs.YtlmhgeanknhcfaaGreatDoor.zgy
