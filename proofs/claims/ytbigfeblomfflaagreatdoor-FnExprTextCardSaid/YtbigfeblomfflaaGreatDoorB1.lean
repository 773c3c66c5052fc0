/-
  Tree Gram TreeOk
-/
import Derived.Test.YtbigfeblomfflaaGreatDoorB6
namespace Go.Proofs.YtbigfeblomfflaaGreatDoor.Tree
open Go.RowKit
open Strs
inductive E where
 | mk (kind:Int) (text:ByteArray) (num:Int) (names:List ByteArray) (kids:List E)
namespace E
def kind:E->Int|mk k _ _ _ _=>k
def text:E->ByteArray|mk _ t _ _ _=>t
def num:E->Int|mk _ _ n _ _=>n
def names:E->List ByteArray|mk _ _ _ ns _=>ns
def kids:E->List E|mk _ _ _ _ ks=>ks
end E
instance:Inhabited E:=⟨.mk 0 ByteArray.empty 0 [] []⟩
theorem ind {P:E->Prop} (h:∀ k t n ns ks,(∀ e,e∈ks->P e)->P (.mk k t n ns ks)):∀ e,P e:=by
 intro e;refine E.rec (motive_1:=P) (motive_2:=fun l=>∀ e,e∈l->P e) ?_ ?_ ?_ e
 ·intro k t n ns ks ih;exact h k t n ns ks ih
 ·intro e he;cases he
 ·intro a l ha hl e he
  cases he with
  | head=>exact ha
  | tail _ h=>exact hl e h
mutual
def size:E->Nat
 | .mk _ _ _ _ ks=>sizes ks+1
def sizes:List E->Nat
 | []=>0
 | e::es=>size e+sizes es
end
mutual
def depth:E->Nat
 | .mk _ _ _ _ ks=>depths ks+1
def depths:List E->Nat
 | []=>0
 | e::es=>max (depth e) (depths es)
end
def lens:List ByteArray->Nat
 | []=>0
 | x::xs=>x.size+lens xs
mutual
def weight:E->Nat
 | .mk _ t _ ns ks=>t.size+(ns.length+lens ns)+(ks.length+weights ks)
def weights:List E->Nat
 | []=>0
 | e::es=>weight e+weights es
end
theorem sizes_append (a b:List E):sizes (a++b)=sizes a+sizes b:=by
 induction a with
 | nil=>simp[sizes]
 | cons e es ih=>simp[sizes,ih];omega
theorem depths_append (a b:List E):depths (a++b)=max (depths a) (depths b):=by
 induction a with
 | nil=>simp[depths]
 | cons e es ih=>simp only[depths,List.cons_append,ih];omega
theorem za1 (a b:List E):weights (a++b)=weights a+weights b:=by
 induction a with
 | nil=>simp[weights]
 | cons e es ih=>simp[weights,ih];omega
theorem lens_append (a b:List ByteArray):lens (a++b)=lens a+lens b:=by
 induction a with
 | nil=>simp[lens]
 | cons e es ih=>simp[lens,ih];omega
theorem sizes_take (ks:List E) (i:Nat) (h:i<ks.length):sizes (ks.take (i+1))=sizes (ks.take i)+size ks[i]:=by rw[List.take_succ_eq_append_getElem h,sizes_append];simp[sizes]
theorem depths_take (ks:List E) (i:Nat) (h:i<ks.length):depths (ks.take (i+1))=max (depths (ks.take i)) (depth ks[i]):=by rw[List.take_succ_eq_append_getElem h,depths_append];simp[depths]
theorem weights_take (ks:List E) (i:Nat) (h:i<ks.length):weights (ks.take (i+1))=weights (ks.take i)+weight ks[i]:=by rw[List.take_succ_eq_append_getElem h,za1];simp[weights]
theorem lens_take (ks:List ByteArray) (i:Nat) (h:i<ks.length):lens (ks.take (i+1))=lens (ks.take i)+ks[i].size:=by rw[List.take_succ_eq_append_getElem h,lens_append];simp[lens]
theorem sizes_le (ks:List E) (i:Nat):sizes (ks.take i)<=sizes ks:=by
 conv=>rhs;rw[<-List.take_append_drop i ks,sizes_append]
 omega
theorem depths_le (ks:List E) (i:Nat):depths (ks.take i)<=depths ks:=by
 conv=>rhs;rw[<-List.take_append_drop i ks,depths_append]
 omega
theorem weights_le (ks:List E) (i:Nat):weights (ks.take i)<=weights ks:=by
 conv=>rhs;rw[<-List.take_append_drop i ks,za1]
 omega
theorem lens_le (ks:List ByteArray) (i:Nat):lens (ks.take i)<=lens ks:=by
 conv=>rhs;rw[<-List.take_append_drop i ks,lens_append]
 omega
theorem size_kid (ks:List E) (i:Nat) (h:i<ks.length):size ks[i]<=sizes ks:=by have:=sizes_take ks i h;have:=sizes_le ks (i+1);omega
theorem depth_kid (ks:List E) (i:Nat) (h:i<ks.length):depth ks[i]<=depths ks:=by have:=depths_take ks i h;have:=depths_le ks (i+1);omega
theorem weight_kid (ks:List E) (i:Nat) (h:i<ks.length):weight ks[i]<=weights ks:=by have:=weights_take ks i h;have:=weights_le ks (i+1);omega
theorem len_kid (ks:List ByteArray) (i:Nat) (h:i<ks.length):ks[i].size<=lens ks:=by have:=lens_take ks i h;have:=lens_le ks (i+1);omega
theorem size_weight:∀ e,size e<=weight e+1:=by
 refine ind fun k t n ns ks ih=>?_
 rw[size,weight]
 have:∀ l:List E,(∀ e,e∈l->size e<=weight e+1)->sizes l<=l.length+weights l:=by
  intro l
  induction l with
  | nil=>intro _;simp[sizes]
  | cons e es ihl=>
   intro h;have h1:=h e (by simp);have h2:=ihl fun e he=>h e (by simp[he])
   rw[sizes,weights,List.length_cons];omega
 have:=this ks ih;omega
theorem depth_size:∀ e,depth e<=size e:=by
 refine ind fun k t n ns ks ih=>?_
 rw[size,depth]
 have:∀ l:List E,(∀ e,e∈l->depth e<=size e)->depths l<=sizes l:=by
  intro l
  induction l with
  | nil=>intro _;simp[depths]
  | cons e es ihl=>
   intro h;have h1:=h e (by simp);have h2:=ihl fun e he=>h e (by simp[he])
   rw[sizes,depths];omega
 have:=this ks ih;omega
noncomputable def eqE (a b:E):Bool:=@decide (a=b) (Classical.propDecidable _)
theorem eqE_yes {a b:E} (h:a=b):eqE a b=true:=@decide_eq_true _ (Classical.propDecidable _) h
theorem eqE_no {a b:E} (h:¬a=b):eqE a b=false:=@decide_eq_false _ (Classical.propDecidable _) h
def Texts (lo:Nat) (w:World) (xs:List ByteArray) (v:Value):Prop:=
 ∃ a cap,v=.slice a xs.length cap/\(xs.length<=cap/\cap<=maxLen)/\(∀ x,x∈xs->x.size<=maxLen)/\(0<xs.length->∃ b off,a=some ⟨b,off,none⟩/\lo<=b/\∀ j (h:j<xs.length),w.cell? ⟨b,off+j,none⟩=some (.string xs[j]))
mutual
def NodeAt (lo:Nat) (w:World):E->Value->Value->Prop
 | .mk k t n ns ks,vn,vk=>(Lit.int .i64 k).wf=true/\(Lit.int .i64 n).wf=true/\t.size<=maxLen/\Texts lo w ns vn /\
   ∃ a cap,vk=.slice a ks.length cap/\(ks.length<=cap/\cap<=maxLen)/\(0<ks.length->∃ b off,a=some ⟨b,off,none⟩/\lo<=b/\Row lo w b ks off)
def Row (lo:Nat) (w:World) (b:Nat):List E->Nat->Prop
 | [],_=>True
 | e::es,o=>(∃ vn vk,w.cell? ⟨b,o,none⟩=some (.int .i64 e.kind)/\w.cell? ⟨b,o+1,none⟩=some (.string e.text)/\w.cell? ⟨b,o+2,none⟩=some (.int .i64 e.num)/\w.cell? ⟨b,o+3,none⟩=some vn/\w.cell? ⟨b,o+4,none⟩=some vk/\NodeAt lo w e vn vk)/\Row lo w b es (o+5)
end
def KidsAt (lo:Nat) (w:World) (ks:List E) (v:Value):Prop:=
 ∃ a cap,v=.slice a ks.length cap/\(ks.length<=cap/\cap<=maxLen)/\(0<ks.length->∃ b off,a=some ⟨b,off,none⟩/\lo<=b/\Row lo w b ks off)
def Spot (lo:Nat) (w:World) (b o:Nat) (e:E):Prop:=
 ∃ vn vk,w.cell? ⟨b,o,none⟩=some (.int .i64 e.kind)/\w.cell? ⟨b,o+1,none⟩=some (.string e.text)/\w.cell? ⟨b,o+2,none⟩=some (.int .i64 e.num)/\w.cell? ⟨b,o+3,none⟩=some vn/\w.cell? ⟨b,o+4,none⟩=some vk/\NodeAt lo w e vn vk
def Reads (lo:Nat) (w:World) (e:E) (v:Value):Prop:=∃ vn vk,v=.agg #[.int .i64 e.kind,.string e.text,.int .i64 e.num,vn,vk]/\NodeAt lo w e vn vk
theorem zaw {lo:Nat} {w:World} {e:E} {vn vk:Value}:NodeAt lo w e vn vk↔(Lit.int .i64 e.kind).wf=true/\(Lit.int .i64 e.num).wf=true/\e.text.size<=maxLen/\Texts lo w e.names vn/\KidsAt lo w e.kids vk:=by
 cases e with
 | mk k t n ns ks=>rw[NodeAt];exact Iff.rfl
theorem row_iff {lo:Nat} {w:World} {b:Nat} (ks:List E) (o:Nat):Row lo w b ks o↔∀ i (h:i<ks.length),Spot lo w b (o+i*5) ks[i]:=by
 induction ks generalizing o with
 | nil=>simp[Row]
 | cons e es ih=>
  rw[Row,ih];constructor
  ·rintro ⟨h0,h1⟩ i hi
   cases i with
   | zero=>rw[show o+0*5=o by omega];exact h0
   | succ i=>
    have:=h1 i (by simpa using hi);rw[show o+(i+1)*5=o+5+i*5 by omega]
    simpa using this
  ·intro h
   refine ⟨?_,fun i hi=>?_⟩
   ·have h0:Spot lo w b (o+0*5) e:=h 0 (by simp)
    rw[show o+0*5=o by omega] at h0
    exact h0
   have:=h (i+1) (by simpa using hi);rw[show o+(i+1)*5=o+5+i*5 by omega] at this
   simpa using this
def Kept (lo:Nat) (w w':World):Prop:=∀ b o v,lo<=b->w.cell? ⟨b,o,none⟩=some v->w'.cell? ⟨b,o,none⟩=some v
theorem kept_below {lo:Nat} {w w':World} (h:Below w.heap.size w w'):Kept lo w w':=fun _ _ _ _ hc=>cell_keep h hc
theorem Kept.trans {lo:Nat} {w w' w'':World} (h:Kept lo w w') (h':Kept lo w' w''):Kept lo w w'':=fun b o v hb hc=>h' b o v hb (h b o v hb hc)
theorem kept_set {lo:Nat} (w:World) (a:Addr) (v:Value) (h:a.block<lo):Kept lo w (w.setCell a v):=by intro b o u hb hc;exact (World.cell?_setCell_other _ _ _ _ (by intro e;subst e;exact absurd hb (by show ¬lo<=b;exact Nat.not_le.2 h))).trans hc
theorem Texts.keep {lo hi:Nat} {w w':World} {xs:List ByteArray} {v:Value} (h:Texts hi w xs v) (hl:lo<=hi) (hk:Kept hi w w'):Texts lo w' xs v:=by
 obtain ⟨a,cap,rfl,hm,hs,hc⟩:=h;refine ⟨a,cap,rfl,hm,hs,fun hp=>?_⟩
 obtain ⟨b,off,rfl,hb,hd⟩:=hc hp;exact ⟨b,off,rfl,Nat.le_trans hl hb,fun j hj=>hk _ _ _ hb (hd j hj)⟩
theorem NodeAt.keep {lo hi:Nat} {w w':World} (hl:lo<=hi) (hk:Kept hi w w'):∀ e vn vk,NodeAt hi w e vn vk->NodeAt lo w' e vn vk:=by
 refine ind fun k t n ns ks ih=>?_
 intro vn vk h;rw[zaw] at h ⊢;obtain ⟨h1,h2,h3,h4,a,cap,rfl,hm,hc⟩:=h;refine ⟨h1,h2,h3,h4.keep hl hk,a,cap,rfl,hm,fun hp=>?_⟩
 obtain ⟨b,off,rfl,hb,hr⟩:=hc hp;refine ⟨b,off,rfl,Nat.le_trans hl hb,?_⟩;rw[row_iff] at hr ⊢;intro i hi;obtain ⟨wn,wk,c0,c1,c2,c3,c4,hn⟩:=hr i hi;exact ⟨wn,wk,hk _ _ _ hb c0,hk _ _ _ hb c1,hk _ _ _ hb c2,hk _ _ _ hb c3,hk _ _ _ hb c4,ih _ (List.getElem_mem _) _ _ hn⟩
theorem KidsAt.keep {lo hi:Nat} {w w':World} {ks:List E} {v:Value} (h:KidsAt hi w ks v) (hl:lo<=hi) (hk:Kept hi w w'):KidsAt lo w' ks v:=by
 obtain ⟨a,cap,rfl,hm,hc⟩:=h;refine ⟨a,cap,rfl,hm,fun hp=>?_⟩
 obtain ⟨b,off,rfl,hb,hr⟩:=hc hp;refine ⟨b,off,rfl,Nat.le_trans hl hb,?_⟩;rw[row_iff] at hr ⊢;intro i hi;obtain ⟨wn,wk,c0,c1,c2,c3,c4,hn⟩:=hr i hi;exact ⟨wn,wk,hk _ _ _ hb c0,hk _ _ _ hb c1,hk _ _ _ hb c2,hk _ _ _ hb c3,hk _ _ _ hb c4,NodeAt.keep hl hk _ _ _ hn⟩
theorem Reads.keep {lo hi:Nat} {w w':World} {e:E} {v:Value} (h:Reads hi w e v) (hl:lo<=hi) (hk:Kept hi w w'):Reads lo w' e v:=by obtain ⟨vn,vk,rfl,hn⟩:=h;exact ⟨vn,vk,rfl,NodeAt.keep hl hk _ _ _ hn⟩
theorem Reads.below {lo:Nat} {w w':World} {e:E} {v:Value} (h:Reads lo w e v) (hb:Below w.heap.size w w'):Reads lo w' e v:=h.keep (zL _) (kept_below hb)
theorem NodeAt.below {lo:Nat} {w w':World} {e:E} {vn vk:Value} (h:NodeAt lo w e vn vk) (hb:Below w.heap.size w w'):NodeAt lo w' e vn vk:=NodeAt.keep (zL _) (kept_below hb) _ _ _ h
theorem KidsAt.below {lo:Nat} {w w':World} {ks:List E} {v:Value} (h:KidsAt lo w ks v) (hb:Below w.heap.size w w'):KidsAt lo w' ks v:=h.keep (zL _) (kept_below hb)
theorem Texts.below {lo:Nat} {w w':World} {xs:List ByteArray} {v:Value} (h:Texts lo w xs v) (hb:Below w.heap.size w w'):Texts lo w' xs v:=h.keep (zL _) (kept_below hb)
end Go.Proofs.YtbigfeblomfflaaGreatDoor.Tree
namespace Go.Proofs.YtbigfeblomfflaaGreatDoor.Gram
open Tree
abbrev R:=List Tok.T
def cColon:ByteArray:=⟨#[58]⟩
def cBar:ByteArray:=⟨#[124]⟩
def cHat:ByteArray:=⟨#[94]⟩
def cDot:ByteArray:=⟨#[46]⟩
def cSemi:ByteArray:=⟨#[59]⟩
def cOpen:ByteArray:=⟨#[40]⟩
def cClose:ByteArray:=⟨#[41]⟩
def cLeft:ByteArray:=⟨#[91]⟩
def cRight:ByteArray:=⟨#[93]⟩
def cGets:ByteArray:=⟨#[58,61]⟩
def none_:ByteArray:=⟨#[]⟩
def hd (k:Int):R->Bool
 | []=>false
 | t::_=>decide (t.kind=k)
def mk (c:ByteArray):R->Bool
 | []=>false
 | t::_=>decide (t.kind=7)&&decide (t.text=c)
def txt:R->ByteArray
 | []=>none_
 | t::_=>t.text
def eName (s:ByteArray):E:=.mk 4 s 0 [] []
def eSend (e:E) (s:ByteArray) (args:List E):E:=.mk 6 s 0 [] (e::args)
def eMsg (s:ByteArray) (args:List E):E:=.mk 6 s 0 [] args
def eBlock (ps ts:List ByteArray) (body:List E):E:=.mk 8 none_ ps.length (ps++ts) body
abbrev X:=R->Option (E×R)
def unLoop:E->Bool->R->E×Bool×R
 | e,s,[]=>(e,s,[])
 | e,s,t::r=>if t.kind=1 then unLoop (eSend e t.text []) true r else (e,s,t::r)
def parLoop (ps:List ByteArray):R->Option (List ByteArray×R)
 | []=>some (ps,[])
 | [t]=>if mk cColon [t] then none else some (ps,[t])
 | t::u::r=>if mk cColon [t] then (if u.kind=1 then parLoop (ps++[u.text]) r else none) else some (ps,t::u::r)
def nameLoop (ts:List ByteArray):R->List ByteArray×R
 | []=>(ts,[])
 | t::r=>if t.kind=1 then nameLoop (ts++[t.text]) r else (ts,t::r)
def names (r:R):Option (List ByteArray×R):=
 if mk cBar r then (let x:=nameLoop [] r.tail;if mk cBar x.2 then some (x.1,x.2.tail) else none) else some ([],r)
def begins:R->Bool
 | []=>false
 | t::_=>(decide (1<=t.kind/\t.kind<=5)&&decide (t.kind≠2))||(decide (t.kind=7)&&(decide (t.text=cOpen)||decide (t.text=cLeft)||decide (t.text=cHat)))
section
variable (ex:X)
def stLoop (body:List E) (r:R):Option (List E×R):=
 if begins r then
  if mk cHat r then
   match ex r.tail with
   | none=>none
   | some (e,r1)=>some (body++[.mk 9 none_ 0 [] [e]],if mk cDot r1 then r1.tail else r1)
  else
   match ex r with
   | none=>none
   | some (e,r1)=>if mk cDot r1 then (if _h:r1.tail.length<r.length then stLoop (body++[e]) r1.tail else none) else some (body++[e],r1)
 else some (body,r)
 termination_by r.length
 decreasing_by first|assumption|simpa using _h
def block (r:R):Option (E×R):=
 match parLoop [] r with
 | none=>none
 | some (ps,r1)=>
  if ps.length=0\/mk cBar r1=true then
   match names (if ps.length=0 then r1 else r1.tail) with
   | none=>none
   | some (ts,r2)=>
    match stLoop ex [] r2 with
    | none=>none
    | some (body,r3)=>if mk cRight r3 then some (eBlock ps ts body,r3.tail) else none
  else none
def primary:R->Option (E×R)
 | []=>none
 | t::r=>
  if t.kind=1 then some (eName t.text,r)
  else if t.kind=3 then some (.mk 1 none_ t.num [] [],r)
  else if t.kind=4 then some (.mk 2 t.text 0 [] [],r)
  else if t.kind=5 then some (.mk 3 t.text 0 [] [],r)
  else if mk cOpen [t] then (match ex r with|none=>none|some (e,r1)=>if mk cClose r1 then some (e,r1.tail) else none)
  else if mk cLeft [t] then block ex r
  else none
def unary (r:R):Option (E×Bool×R):=
 match primary ex r with
 | none=>none
 | some (e,r1)=>some (unLoop e false r1)
def binLoop (e:E) (s:Bool) (r:R):Option (E×Bool×R):=
 if hd 6 r then
  match unary ex r.tail with
  | none=>none
  | some (a,_,r1)=>if _h:r1.length<r.length then binLoop (eSend e (txt r) [a]) true r1 else none
 else some (e,s,r)
 termination_by r.length
 decreasing_by first|assumption|simpa using _h
def binary (r:R):Option (E×Bool×R):=
 match unary ex r with
 | none=>none
 | some (e,s,r1)=>binLoop ex e s r1
def keyLoop (sel:ByteArray) (args:List E) (r:R):Option (ByteArray×List E×R):=
 if hd 2 r then
  match binary ex r.tail with
  | none=>none
  | some (a,_,r1)=>if _h:r1.length<r.length then keyLoop (sel++txt r) (args++[a]) r1 else none
 else some (sel,args,r)
 termination_by r.length
 decreasing_by first|assumption|simpa using _h
def message (r:R):Option (E×R):=
 if hd 1 r then some (eMsg (txt r) [],r.tail)
 else if hd 6 r then (match unary ex r.tail with|none=>none|some (a,_,r1)=>some (eMsg (txt r) [a],r1))
 else match keyLoop ex none_ [] r with
  | none=>none
  | some (sel,args,r1)=>if sel.size=0 then none else some (eMsg sel args,r1)
def casLoop (kids:List E) (r:R):Option (List E×R):=
 if mk cSemi r then
  match message ex r.tail with
  | none=>none
  | some (m,r1)=>if _h:r1.length<r.length then casLoop (kids++[m]) r1 else none
 else some (kids,r)
 termination_by r.length
 decreasing_by first|assumption|simpa using _h
def cascade (e:E) (s:Bool) (r:R):Option (E×R):=
 if mk cSemi r then
  if s then
   match casLoop ex [e.kids.headD default,.mk 6 e.text 0 [] e.kids.tail] r with
   | none=>none
   | some (ks,r1)=>some (.mk 7 none_ 0 [] ks,r1)
  else none
 else some (e,r)
def exprF (r:R):Option (E×R):=
 if hd 1 r&&mk cGets r.tail then
  match ex r.tail.tail with
  | none=>none
  | some (e,r1)=>some (.mk 5 (txt r) 0 [] [e],r1)
 else
  match binary ex r with
  | none=>none
  | some (e,s,r1)=>
   match keyLoop ex none_ [] r1 with
   | none=>none
   | some (sel,args,r2)=>if sel.size=0 then cascade ex e s r2 else cascade ex (eSend e sel args) true r2
end
def expr:Nat->X
 | 0=>fun _=>none
 | n+1=>exprF (expr n)
def parse (r:R):Option E:=
 match expr (r.length+1) r with
 | some (e,[])=>some e
 | _=>none
def Short (ex:X):Prop:=∀ r e r1,ex r=some (e,r1)->r1.length<r.length
theorem unLoop_le:∀ (r:R) (e:E) (s:Bool),(unLoop e s r).2.2.length<=r.length
 | [],_,_=>zL _
 | t::r,e,s=>by
  rw[unLoop]
  split
  ·have:=unLoop_le r (eSend e t.text []) true;simp;omega
  ·exact zL _
theorem parLoop_le:∀ (r:R) (ps ps':List ByteArray) (r1:R),parLoop ps r=some (ps',r1)->r1.length<=r.length
 | [],ps,ps',r1,h=>by rw[parLoop] at h;cases h;exact zL _
 | [t],ps,ps',r1,h=>by
  rw[parLoop] at h
  split at h
  ·cases h
  ·cases h;exact zL _
 | t::u::r,ps,ps',r1,h=>by
  rw[parLoop] at h
  split at h
  ·split at h
   ·have:=parLoop_le r _ _ _ h;simp;omega
   ·cases h
  ·cases h;exact zL _
theorem nameLoop_le:∀ (r:R) (ts:List ByteArray),(nameLoop ts r).2.length<=r.length
 | [],_=>zL _
 | t::r,ts=>by
  rw[nameLoop]
  split
  ·have:=nameLoop_le r (ts++[t.text]);simp;omega
  ·exact zL _
theorem tail_lt {c:ByteArray} {r:R} (h:mk c r=true):r.tail.length<r.length:=by
 cases r with
 | nil=>cases h
 | cons t r=>simp
theorem hd_lt {k:Int} {r:R} (h:hd k r=true):r.tail.length<r.length:=by
 cases r with
 | nil=>cases h
 | cons t r=>simp
theorem tail_le (r:R):r.tail.length<=r.length:=by simp
theorem names_le {r:R} {ts:List ByteArray} {r1:R} (h:names r=some (ts,r1)):r1.length<=r.length:=by
 unfold names at h
 split at h
 ·rename_i hb
  have h1:=nameLoop_le r.tail [];have h2:=tail_lt hb;simp only at h
  split at h
  ·rename_i hb2
   have h3:=tail_lt hb2;cases h;omega
  ·cases h
 ·cases h;exact zL _
section
variable {ex:X}
theorem stLoop_le (hx:Short ex):∀ (m:Nat) (r:R) (body body':List E) (r1:R),r.length<=m->stLoop ex body r=some (body',r1)->r1.length<=r.length:=by
 intro m
 induction m with
 | zero=>intro r body body' r1 hm h;have:r=[]:=List.eq_nil_of_length_eq_zero (by omega);subst this;rw[stLoop] at h;simp[begins] at h;rw[<-h.2];exact zL _
 | succ m ih=>
  intro r body body' r1 hm h;rw[stLoop] at h
  split at h
  ·split at h
   ·rename_i hh
    have h2:=tail_lt hh
    split at h
    ·cases h
    ·rename_i e r2 he
     have h3:=hx _ _ _ he;simp only[Option.some.injEq,Prod.mk.injEq] at h;rw[<-h.2]
     split
     ·have:=tail_le r2;omega
     ·omega
   ·split at h
    ·cases h
    ·rename_i e r2 he
     have h3:=hx _ _ _ he
     split at h
     ·split at h
      ·rename_i hlt
       have:=ih r2.tail _ _ _ (by omega) h;omega
      ·cases h
     ·cases h;omega
  ·cases h;exact zL _
theorem block_lt (hx:Short ex) {r:R} {e:E} {r1:R} (h:block ex r=some (e,r1)):r1.length<r.length:=by
 unfold block at h
 split at h
 ·cases h
 ·rename_i ps r2 hp
  have h1:=parLoop_le _ _ _ _ hp
  split at h
  ·split at h
   ·cases h
   ·rename_i ts r3 hn
    have h2:=names_le hn
    have h3:(if ps.length=0 then r2 else r2.tail).length<=r2.length:=by
     split
     ·exact zL _
     ·exact tail_le _
    split at h
    ·cases h
    ·rename_i body r4 hs
     have h4:=stLoop_le hx _ _ _ _ _ (zL _) hs
     split at h
     ·rename_i hr
      have h5:=tail_lt hr;cases h;omega
     ·cases h
  ·cases h
theorem primary_lt (hx:Short ex) {r:R} {e:E} {r1:R} (h:primary ex r=some (e,r1)):r1.length<r.length:=by
 cases r with
 | nil=>cases h
 | cons t r=>
  rw[primary] at h
  split at h
  ·cases h;simp
  split at h
  ·cases h;simp
  split at h
  ·cases h;simp
  split at h
  ·cases h;simp
  split at h
  ·split at h
   ·cases h
   ·rename_i e' r2 he
    have h1:=hx _ _ _ he
    split at h
    ·rename_i hr
     have h5:=tail_lt hr;cases h;simp;omega
    ·cases h
  split at h
  ·have:=block_lt hx h;simp;omega
  ·cases h
theorem unary_lt (hx:Short ex) {r:R} {e:E} {s:Bool} {r1:R} (h:unary ex r=some (e,s,r1)):r1.length<r.length:=by
 unfold unary at h
 split at h
 ·cases h
 ·rename_i e' r2 hp
  have h1:=primary_lt hx hp;have h2:=unLoop_le r2 e' false;simp only[Option.some.injEq] at h;rw[h] at h2;simp at h2;omega
theorem binLoop_le:∀ (m:Nat) (r:R) (e e':E) (s s':Bool) (r1:R),r.length<=m->binLoop ex e s r=some (e',s',r1)->r1.length<=r.length:=by
 intro m
 induction m with
 | zero=>intro r e e' s s' r1 hm h;have:r=[]:=List.eq_nil_of_length_eq_zero (by omega);subst this;rw[binLoop] at h;simp[hd] at h;rw[<-h.2.2];exact zL _
 | succ m ih=>
  intro r e e' s s' r1 hm h;rw[binLoop] at h
  split at h
  ·split at h
   ·cases h
   ·split at h
    ·rename_i hlt
     have:=ih _ _ _ _ _ _ (by omega) h;omega
    ·cases h
  ·cases h;exact zL _
theorem binary_lt (hx:Short ex) {r:R} {e:E} {s:Bool} {r1:R} (h:binary ex r=some (e,s,r1)):r1.length<r.length:=by
 unfold binary at h
 split at h
 ·cases h
 ·rename_i e' s' r2 hu
  have h1:=unary_lt hx hu;have h2:=binLoop_le _ _ _ _ _ _ _ (zL _) h;omega
theorem keyLoop_le:∀ (m:Nat) (r:R) (s s':ByteArray) (xs xs':List E) (r1:R),r.length<=m->keyLoop ex s xs r=some (s',xs',r1)->r1.length<=r.length:=by
 intro m
 induction m with
 | zero=>intro r s s' xs xs' r1 hm h;have:r=[]:=List.eq_nil_of_length_eq_zero (by omega);subst this;rw[keyLoop] at h;simp[hd] at h;rw[<-h.2.2];exact zL _
 | succ m ih=>
  intro r s s' xs xs' r1 hm h;rw[keyLoop] at h
  split at h
  ·split at h
   ·cases h
   ·split at h
    ·rename_i hlt
     have:=ih _ _ _ _ _ _ (by omega) h;omega
    ·cases h
  ·cases h;exact zL _
theorem message_lt (hx:Short ex) {r:R} {e:E} {r1:R} (h:message ex r=some (e,r1)):r1.length<r.length:=by
 unfold message at h
 split at h
 ·rename_i hh
  have:=hd_lt hh;cases h;omega
 ·split at h
  ·rename_i hh
   have:=hd_lt hh
   split at h
   ·cases h
   ·rename_i a s r2 hu
    have h2:=unary_lt hx hu;cases h;omega
  ·split at h
   ·cases h
   ·rename_i sel args r2 hk
    split at h
    ·cases h
    ·rename_i hsel
     rw[keyLoop] at hk
     split at hk
     ·rename_i hh
      have h0:=hd_lt hh
      split at hk
      ·cases hk
      ·split at hk
       ·rename_i hlt
        have:=keyLoop_le _ _ _ _ _ _ _ (zL _) hk;cases h;omega
       ·cases hk
     ·cases hk
      exact absurd rfl hsel
theorem casLoop_le:∀ (m:Nat) (r:R) (ks ks':List E) (r1:R),r.length<=m->casLoop ex ks r=some (ks',r1)->r1.length<=r.length:=by
 intro m
 induction m with
 | zero=>intro r ks ks' r1 hm h;have:r=[]:=List.eq_nil_of_length_eq_zero (by omega);subst this;rw[casLoop] at h;simp[mk] at h;rw[<-h.2];exact zL _
 | succ m ih=>
  intro r ks ks' r1 hm h;rw[casLoop] at h
  split at h
  ·split at h
   ·cases h
   ·split at h
    ·rename_i hlt
     have:=ih _ _ _ _ (by omega) h;omega
    ·cases h
  ·cases h;exact zL _
theorem cascade_le {e:E} {s:Bool} {r:R} {e':E} {r1:R} (h:cascade ex e s r=some (e',r1)):r1.length<=r.length:=by
 unfold cascade at h
 split at h
 ·split at h
  ·split at h
   ·cases h
   ·rename_i ks r2 hc
    have:=casLoop_le _ _ _ _ _ (zL _) hc;cases h;omega
  ·cases h
 ·cases h;exact zL _
theorem exprF_short (hx:Short ex):Short (exprF ex):=by
 intro r e r1 h;unfold exprF at h
 split at h
 ·rename_i hh
  rw[Bool.and_eq_true] at hh;have h1:=hd_lt hh.1;have h2:=tail_le r.tail
  split at h
  ·cases h
  ·rename_i e' r2 he
   have h3:=hx _ _ _ he;cases h;omega
 ·split at h
  ·cases h
  ·rename_i e' s r2 hb
   have h1:=binary_lt hx hb
   split at h
   ·cases h
   ·rename_i sel args r3 hk
    have h2:=keyLoop_le _ _ _ _ _ _ _ (zL _) hk
    split at h
    ·have:=cascade_le h;omega
    ·have:=cascade_le h;omega
end
theorem zat:∀ n,Short (expr n)
 | 0=>fun _ _ _ h=>by cases h
 | n+1=>exprF_short (zat n)
end Go.Proofs.YtbigfeblomfflaaGreatDoor.Gram
namespace Go.Proofs.YtbigfeblomfflaaGreatDoor.Tree
def isText (s:ByteArray):Bool:=s.data.toList.all (fun b=>32<=b.toNat&&b.toNat<=126)&&decide (s.size<=40)
def node (k:Int) (t:ByteArray) (n:Int) (ns:List ByteArray) (len:Nat) (ms:Bool):Bool:=
 if (k≠8/\0<ns.length)\/(k≠1/\k≠8/\n≠0) then false
 else if k=1 then decide (t.size=0)&&(decide (0<=n/\n<=999999999)&&decide (len=0))
 else if k=2 then isText t&&decide (len=0)
 else if k=3 then Tok.sel t&&decide (len=0)
 else if k=4 then Tok.isName t&&decide (len=0)
 else if k=5 then Tok.isName t&&decide (len=1)
 else if k=6 then decide ((len:Int)=Tok.countArgs t+1)&&decide (0<len)
 else if k=7 then decide (t.size=0)&&(decide (3<=len)&&ms)
 else if k=8 then ns.all Tok.isName&&(decide (t.size=0)&&decide (0<=n/\n<=(ns.length:Int)))
 else if k=9 then decide (t.size=0)&&decide (len=1)
 else false
mutual
def right:E->Bool->Bool
 | .mk k t n ns ks,st=>node k t n ns ks.length (tailOk ks)&&(decide (k≠9)||st)&&(if k=7 then headOk ks else rights (decide (k=8)) ks)
def rights (b:Bool):List E->Bool
 | []=>true
 | e::es=>(right e b&&(!(b&&decide (e.kind=9))||es.isEmpty))&&rights b es
def headOk:List E->Bool
 | []=>true
 | e::_=>right e false
def tailOk:List E->Bool
 | []=>true
 | _::es=>msgs es
def msgs:List E->Bool
 | []=>true
 | .mk k t n ns ks::ms=>(decide (k=6)&&decide (n=0)&&decide (ns.length=0)&&decide (0<=Tok.countArgs t)&&decide ((ks.length:Int)=Tok.countArgs t)&&rights false ks)&&msgs ms
end
def isExpr (e:E):Bool:=decide (size e<=300)&&decide (depth e<=25)&&right e true
theorem rights_iff (b:Bool) (ks:List E):rights b ks=true↔∀ i (h:i<ks.length),right ks[i] b=true/\¬(b=true/\ks[i].kind=9/\i+1<ks.length):=by
 induction ks with
 | nil=>simp[rights]
 | cons e es ih=>
  rw[rights,Bool.and_eq_true,ih];constructor
  ·rintro ⟨h0,h1⟩ i hi
   cases i with
   | zero=>
    simp at h0;refine ⟨h0.1,?_⟩;rintro ⟨hb,hk,hl⟩;rcases h0.2 with (h|h)|h
    ·rw[hb] at h;cases h
    ·exact h hk
    ·subst h;simp at hl
   | succ i=>
    have:=h1 i (by simpa using hi)
    simpa using this
  ·intro h
   refine ⟨?_,fun i hi=>?_⟩
   ·have h0:=h 0 (by simp)
    simp at h0;simp[h0.1];cases es with
    | nil=>simp
    | cons x xs=>cases b<;>simp_all
   ·have:=h (i+1) (by simpa using hi)
    simpa using this
theorem rights_false (ks:List E):rights false ks=ks.all (fun e=>right e false):=by
 induction ks with
 | nil=>rfl
 | cons e es ih=>rw[rights,ih];simp
def msg (m:E):Bool:=decide (m.kind=6)&&decide (m.num=0)&&decide (m.names.length=0)&&decide (0<=Tok.countArgs m.text)&&decide ((m.kids.length:Int)=Tok.countArgs m.text)&&rights false m.kids
theorem msgs_all (ms:List E):msgs ms=ms.all msg:=by
 induction ms with
 | nil=>rfl
 | cons m ms ih=>cases m with|mk k t n ns ks=>rw[msgs,ih];rfl
end Go.Proofs.YtbigfeblomfflaaGreatDoor.Tree
