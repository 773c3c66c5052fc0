/-
  TokFit TokFull
-/
import Derived.Test.YtbigfeblomfflaaGreatDoorB47
import Derived.DataShut
namespace Go.Proofs.YtbigfeblomfflaaGreatDoor
namespace Tok
structure Fine (t:T):Prop where
 kind:1<=t.kind/\t.kind<=8
 num:0<=t.num/\t.num<=1000000000000
 two:t.kind=2->0<t.text.size
 zero:t.kind≠3->t.num=0
theorem Fine.seven {t:T} (h:Fine t) (hk:t.kind=7):t.num=0:=h.zero (by rw[hk];decide)
theorem fine_mk (k:Int) (x:ByteArray) (n:Int) (h1:1<=k/\k<=8) (h2:0<=n/\n<=1000000000000) (h3:k=2->0<x.size) (h4:k≠3->n=0):Fine ⟨k,x,n⟩:=⟨h1,h2,h3,h4⟩
theorem dval_le (n:Nat):∀ l:List UInt8,l.length=n->dval l+23<=23*10 ^ n:=by
 induction n with
 | zero=>intro l h;rw[List.eq_nil_of_length_eq_zero h];decide
 | succ n ih=>
  intro l h;have hne:l≠[]:=by intro e;subst e;cases h
  rw[<-List.dropLast_concat_getLast hne,dval_snoc];have h1:=ih l.dropLast (by simp;omega);have h2:=(l.getLast hne).toNat_lt;rw[Nat.pow_succ];omega
theorem dval_nine (l:List UInt8) (h:l.length<=9):dval l<=1000000000000:=by have h1:=dval_le _ l rfl;have h2:10 ^ l.length<=10 ^ 9:=Nat.pow_le_pow_right (by omega) h;omega
theorem ext_size (s:ByteArray) (a b:Nat):(s.extract a b).size<=b-a:=by rw[ByteArray.size_extract];omega
theorem quo_len (l:List UInt8) (f:Nat):∀ i out o e,quo l f i out=some (o,e)->o.length+i<=out.length+e:=by
 induction f with
 | zero=>intro i out o e h;cases h
 | succ f ih=>
  intro i out o e h;rw[quo] at h
  split at h
  ·cases h
  ·split at h
   ·split at h
    ·have:=ih _ _ _ _ h
     rw[List.length_append] at this;simp at this;omega
    ·simp only[Option.some.injEq,Prod.mk.injEq] at h
     obtain ⟨rfl,rfl⟩:=h;omega
   ·split at h
    ·have:=ih _ _ _ _ h
     rw[List.length_append] at this;simp at this;omega
    ·cases h
theorem name_fine (s:ByteArray) (p:Nat) (t:T) (e:Nat) (hn:nameAt s p=some (t,e)):Fine t/\t.text.size<=e-p:=by
 unfold nameAt at hn;simp only at hn;have hx:=ext_size s p (run s.data.toList p)
 split at hn
 ·cases hn
 ·split at hn
  ·simp only[Option.some.injEq,Prod.mk.injEq] at hn
   obtain ⟨rfl,rfl⟩:=hn;have hr:p<=run s.data.toList p:=by unfold run;omega
   refine ⟨fine_mk _ _ _ (by decide) (by decide) (fun _=>?_) (fun _=>rfl),?_⟩
   ·show 0<(_++_:ByteArray).size
    rw[ByteArray.size_append];show 0<_+1
    omega
   ·show (_++_:ByteArray).size<=_
    rw[ByteArray.size_append];show _+1<=_
    omega
  ·simp only[Option.some.injEq,Prod.mk.injEq] at hn
   obtain ⟨rfl,rfl⟩:=hn;refine ⟨fine_mk _ _ _ ?_ (by decide) (fun h=>?_) (fun _=>rfl),hx⟩
   ·show 1<=(if _ then (8:Int) else 1)/\(if _ then (8:Int) else 1)<=8
    split<;>decide
   ·exfalso
    have h':(if has words (s.extract p (run s.data.toList p))=true then (8:Int) else 1)=2:=h
    split at h'
    ·exact absurd h' (by decide)
    ·exact absurd h' (by decide)
theorem number_fine (l:List UInt8) (p:Nat) (t:T) (e:Nat) (hn:number l p=some (t,e)):Fine t/\t.text.size<=e-p:=by
 unfold number at hn
 split at hn
 ·cases hn
 ·rename_i h9
  split at hn
  ·cases hn
  ·simp only[Option.some.injEq,Prod.mk.injEq] at hn
   obtain ⟨rfl,rfl⟩:=hn;have hd:=dval_nine ((l.drop p).take (drun l p-p)) (by rw[List.length_take];omega);exact ⟨fine_mk _ _ _ (by decide) ⟨Int.natCast_nonneg _,by omega⟩ (fun h=>absurd h (by decide)) (fun h=>absurd rfl h),Nat.zero_le _⟩
theorem quoted_fine (l:List UInt8) (p:Nat) (t:T) (e:Nat) (hn:quoted l p=some (t,e)):Fine t/\t.text.size<=e-p:=by
 unfold quoted at hn
 split at hn
 ·rename_i out e' hq
  split at hn
  ·simp only[Option.some.injEq,Prod.mk.injEq] at hn
   obtain ⟨rfl,rfl⟩:=hn;have:=quo_len _ _ _ _ _ _ hq;simp at this;refine ⟨fine_mk _ _ _ (by decide) (by decide) (fun h=>absurd h (by decide)) (fun _=>rfl),?_⟩
   show out.toArray.size<=_
   simp;omega
  ·cases hn
 ·cases hn
theorem selector_fine (s:ByteArray) (p:Nat) (t:T) (e:Nat) (hn:selectorAt s p=some (t,e)):Fine t/\t.text.size<=e-p:=by
 unfold selectorAt at hn;simp only at hn
 split at hn
 ·simp only[Option.some.injEq,Prod.mk.injEq] at hn
  obtain ⟨rfl,rfl⟩:=hn;exact ⟨fine_mk _ _ _ (by decide) (by decide) (fun h=>absurd h (by decide)) (fun _=>rfl),by simp only;omega⟩
 ·split at hn
  ·cases hn
  ·split at hn
   ·simp only[Option.some.injEq,Prod.mk.injEq] at hn
    obtain ⟨rfl,rfl⟩:=hn;exact ⟨fine_mk _ _ _ (by decide) (by decide) (fun h=>absurd h (by decide)) (fun _=>rfl),ext_size _ _ _⟩
   ·cases hn
theorem next_fine (s:ByteArray) (p:Nat) (c:UInt8) (t:T) (e:Nat) (hn:next s p c=some (t,e)):Fine t/\t.text.size<=e-p:=by
 unfold next at hn
 split at hn
 ·exact name_fine _ _ _ _ hn
 split at hn
 ·exact number_fine _ _ _ _ hn
 split at hn
 ·exact quoted_fine _ _ _ _ hn
 split at hn
 ·obtain ⟨h1,h2⟩:=selector_fine _ _ _ _ hn
  exact ⟨h1,by omega⟩
 split at hn
 ·simp only[Option.some.injEq,Prod.mk.injEq] at hn
  obtain ⟨rfl,rfl⟩:=hn;exact ⟨fine_mk _ _ _ (by decide) (by decide) (fun h=>absurd h (by decide)) (fun _=>rfl),by simp only;omega⟩
 split at hn
 ·simp only[Option.some.injEq,Prod.mk.injEq] at hn
  obtain ⟨rfl,rfl⟩:=hn;exact ⟨fine_mk _ _ _ (by decide) (by decide) (fun h=>absurd h (by decide)) (fun _=>rfl),by simp only;omega⟩
 ·cases hn
def texts:List T->Nat
 | []=>0
 | t::ts=>t.text.size+texts ts
theorem texts_append (a b:List T):texts (a++b)=texts a+texts b:=by
 induction a with
 | nil=>simp[texts]
 | cons t ts ih=>simp[texts,ih];omega
theorem texts_mem {ts:List T} {t:T} (h:t∈ts):t.text.size<=texts ts:=by
 induction ts with
 | nil=>cases h
 | cons x xs ih=>
  rw[texts];rcases List.mem_cons.1 h with rfl|h
  ·omega
  ·have:=ih h;omega
theorem toks_fine (s:ByteArray) (f:Nat):∀ p acc r,acc.length<=800->(∀ t,t∈acc->Fine t)->p<=s.size->toks s f p acc=some r->r.length<=800/\(∀ t,t∈r->Fine t)/\texts r+p<=texts acc+s.size:=by
 induction f with
 | zero=>intro p acc r _ _ _ h;cases h
 | succ f ih=>
  intro p acc r ha hf hp h;rw[toks] at h
  split at h
  ·simp only[Option.some.injEq] at h
   subst h;exact ⟨ha,hf,by omega⟩
  ·rename_i c hc
   have hlt:p<s.data.toList.length:=(List.getElem?_eq_some_iff.1 hc).1;have hce:s.data.toList[p]=c:=(List.getElem?_eq_some_iff.1 hc).2;have hls:=zaa s
   split at h
   ·have:=ih _ _ _ ha hf (by omega) h
    exact ⟨this.1,this.2.1,by omega⟩
   ·split at h
    ·split at h
     ·rename_i hq
      have hge:p+1<=qend s.data.toList (p+1):=by unfold qend;omega
      have:=ih _ _ _ ha hf (by omega) h;exact ⟨this.1,this.2.1,by omega⟩
     ·cases h
    ·split at h
     ·cases h
     ·rename_i t e hn
      split at h
      ·cases h
      ·rename_i h8
       have hs:=next_step s p hlt t e (by rw[hce];exact hn);have hfn:=next_fine s p c t e hn
       have:=ih _ _ _ (by simp;omega) (fun x hx=>by
        rcases List.mem_append.1 hx with hx|hx
        ·exact hf x hx
        ·rw[List.mem_singleton.1 hx];exact hfn.1) hs.2.1 h
       refine ⟨this.1,this.2.1,?_⟩;have h3:=this.2.2;rw[texts_append] at h3;simp only[texts] at h3;omega
theorem tokens_fine (s:ByteArray) (ts:List T) (h:tokens s=some ts):ts.length<=800/\(∀ t,t∈ts->Fine t)/\texts ts<=4000:=by
 unfold tokens at h
 split at h
 ·cases h
 ·rename_i h4
  have:=toks_fine s _ _ [] ts (Nat.zero_le _) (fun _ h=>nomatch h) (Nat.zero_le _) h
  exact ⟨this.1,this.2.1,by have:=this.2.2;simp only[texts] at this;omega⟩
theorem Fine.wf {t:T} (h:Fine t):(Lit.int .i64 t.kind).wf=true/\(Lit.int .i64 t.num).wf=true:=by
 have h1:=h.kind;have h2:=h.num;have e1:IntKind.min .i64 = -9223372036854775808:=by decide
 have e2:IntKind.max .i64=9223372036854775807:=by decide
 constructor
 ·rw[Lit.wf_int_iff,e1,e2];omega
 ·rw[Lit.wf_int_iff,e1,e2];omega
end Tok
namespace Tok
theorem number_three (l:List UInt8) (p:Nat) (t:T) (e:Nat) (hn:number l p=some (t,e)):t.kind=3:=by
 unfold number at hn
 split at hn
 ·cases hn
 ·split at hn
  ·cases hn
  ·simp only[Option.some.injEq,Prod.mk.injEq] at hn
   obtain ⟨rfl,rfl⟩:=hn;rfl
theorem quoted_four (l:List UInt8) (p:Nat) (t:T) (e:Nat) (hn:quoted l p=some (t,e)):t.kind=4:=by
 unfold quoted at hn
 split at hn
 ·split at hn
  ·simp only[Option.some.injEq,Prod.mk.injEq] at hn
   obtain ⟨rfl,rfl⟩:=hn;rfl
  ·cases hn
 ·cases hn
theorem selector_five (s:ByteArray) (p:Nat) (t:T) (e:Nat) (hn:selectorAt s p=some (t,e)):t.kind=5:=by
 unfold selectorAt at hn;simp only at hn
 split at hn
 ·simp only[Option.some.injEq,Prod.mk.injEq] at hn
  obtain ⟨rfl,rfl⟩:=hn;rfl
 ·split at hn
  ·cases hn
  ·split at hn
   ·simp only[Option.some.injEq,Prod.mk.injEq] at hn
    obtain ⟨rfl,rfl⟩:=hn;rfl
   ·cases hn
theorem next_full (s:ByteArray) (p:Nat) (hp:p<s.data.toList.length) (t:T) (e:Nat) (hn:next s p s.data.toList[p]=some (t,e)) (hk:t.kind=1\/t.kind=6):0<t.text.size:=by
 have hs:=next_step s p hp t e hn;unfold next at hn
 split at hn
 ·unfold nameAt at hn
  simp only at hn
  split at hn
  ·cases hn
  ·split at hn
   ·simp only[Option.some.injEq,Prod.mk.injEq] at hn
    obtain ⟨rfl,rfl⟩:=hn;exact absurd hk (by simp)
   ·simp only[Option.some.injEq,Prod.mk.injEq] at hn
    obtain ⟨rfl,rfl⟩:=hn;show 0<(s.extract p _).size
    rw[ByteArray.size_extract];omega
 split at hn
 ·have:=number_three _ _ _ _ hn;omega
 split at hn
 ·have:=quoted_four _ _ _ _ hn;omega
 split at hn
 ·have:=selector_five _ _ _ _ hn;omega
 split at hn
 ·rename_i hne
  simp only[Option.some.injEq,Prod.mk.injEq] at hn;obtain ⟨rfl,rfl⟩:=hn;show 0<(starts s p binaries).size
  have h1:=hs.1;omega
 split at hn
 ·simp only[Option.some.injEq,Prod.mk.injEq] at hn
  obtain ⟨rfl,rfl⟩:=hn;exact absurd hk (by simp)
 ·cases hn
theorem toksFull_all (s:ByteArray) (f:Nat):∀ p acc r,(∀ t,t∈acc->t.kind=1\/t.kind=6->0<t.text.size)->toks s f p acc=some r->∀ t,t∈r->t.kind=1\/t.kind=6->0<t.text.size:=by
 induction f with
 | zero=>intro p acc r _ h;cases h
 | succ f ih=>
  intro p acc r hf h;rw[toks] at h
  split at h
  ·simp only[Option.some.injEq] at h
   subst h;exact hf
  ·rename_i c hc
   have hlt:p<s.data.toList.length:=(List.getElem?_eq_some_iff.1 hc).1;have hce:s.data.toList[p]=c:=(List.getElem?_eq_some_iff.1 hc).2
   split at h
   ·exact ih _ _ _ hf h
   ·split at h
    ·split at h
     ·exact ih _ _ _ hf h
     ·cases h
    ·split at h
     ·cases h
     ·rename_i t e hn
      split at h
      ·cases h
      ·have hfn:=next_full s p hlt t e (by rw[hce];exact hn)
       refine ih _ _ _ (fun x hx=>?_) h
       rcases List.mem_append.1 hx with hx|hx
       ·exact hf x hx
       ·rw[List.mem_singleton.1 hx];exact hfn
theorem tokens_full (s:ByteArray) (ts:List T) (h:tokens s=some ts):∀ t,t∈ts->t.kind=1\/t.kind=6->0<t.text.size:=by
 unfold tokens at h
 split at h
 ·cases h
 ·exact toksFull_all s _ _ [] ts (fun _ h=>nomatch h) h
end Tok
end Go.Proofs.YtbigfeblomfflaaGreatDoor
