/-
  Tok TokStep Rest NamesMath
-/
import Derived.Test.YtlmhgeanknhcfaaGreatDoorB16
import Derived.Lib.Bytealg
namespace Go.Proofs.YtlmhgeanknhcfaaGreatDoor
namespace Tok
def letter (c:UInt8):Bool:=(decide (97<=c.toNat)&&decide (c.toNat<=122))||(decide (65<=c.toNat)&&decide (c.toNat<=90))
def digit (c:UInt8):Bool:=decide (48<=c.toNat)&&decide (c.toNat<=57)
def zcy (c:UInt8):Bool:=letter c||digit c
def words:List ByteArray:=[⟨#[99,108,97,115,115]⟩,⟨#[101,120,116,101,110,100,115]⟩,⟨#[102,105,101,108,100,115]⟩,⟨#[109,101,116,104,111,100]⟩,⟨#[99,108,97,115,115,109,101,116,104,111,100]⟩,⟨#[101,110,100]⟩,⟨#[109,97,105,110]⟩]
def zad:List ByteArray:=[⟨#[47,47]⟩,⟨#[92,92]⟩,⟨#[60,61]⟩,⟨#[62,61]⟩,⟨#[61,61]⟩,⟨#[126,61]⟩,⟨#[126,126]⟩,⟨#[43]⟩,⟨#[45]⟩,⟨#[42]⟩,⟨#[60]⟩,⟨#[62]⟩,⟨#[61]⟩,⟨#[44]⟩,⟨#[38]⟩]
def marks:List ByteArray:=[⟨#[58,61]⟩,⟨#[94]⟩,⟨#[46]⟩,⟨#[59]⟩,⟨#[91]⟩,⟨#[93]⟩,⟨#[40]⟩,⟨#[41]⟩,⟨#[124]⟩,⟨#[58]⟩]
def has (xs:List ByteArray) (s:ByteArray):Bool:=xs.any fun x=>x.toList==s.toList
theorem yd8 (xs:List ByteArray) (s:ByteArray) (i:Nat) (h:i<xs.length) (he:(xs[i].toList==s.toList)=true):has xs s=true:=by unfold has;rw[List.any_eq_true];exact ⟨xs[i],List.getElem_mem h,he⟩
theorem ybf (xs:List ByteArray) (s:ByteArray) (h:∀ i (hi:i<xs.length),(xs[i].toList==s.toList)=false):has xs s=false:=by unfold has;rw[List.any_eq_false];intro x hx;obtain ⟨i,hi,rfl⟩:=List.mem_iff_getElem.1 hx;rw[h i hi];exact Bool.false_ne_true
def run (l:List UInt8) (i:Nat):Nat:=i+((l.drop i).takeWhile zcy).length
theorem zld (l:List UInt8) (i:Nat) (h:∀ (hi:i<l.length),zcy l[i]=false):run l i=i:=by
 unfold run;by_cases hi:i<l.length
 ·rw[List.drop_eq_getElem_cons hi,List.takeWhile_cons,h hi];rfl
 ·rw[List.drop_of_length_le (by omega)];rfl
theorem z6h (l:List UInt8) (i:Nat) (hi:i<l.length) (h:zcy l[i]=true):run l i=run l (i+1):=by unfold run;rw[List.drop_eq_getElem_cons hi,List.takeWhile_cons,h];simp;omega
theorem zlg (l:List UInt8) (i:Nat) (hi:i<=l.length):i<=run l i/\run l i<=l.length:=by unfold run;have:=List.takeWhile_prefix (p:=zcy) (l:=l.drop i);have:=this.length_le;simp at this;omega
def zdr (l:List UInt8) (i:Nat):Bool:=(l[i]?==some 58)&&!(l[i+1]?==some 61)
theorem ze7 (l:List UInt8) (i:Nat) (h:zdr l i=true):i<l.length:=by
 unfold zdr at h;rcases Nat.lt_or_ge i l.length with h1|h1
 ·exact h1
 ·rw[List.getElem?_eq_none h1] at h;simp at h
def zca (l:List UInt8):Bool:=decide (1<=l.length)&&decide (l.length<=20)&&(match l with|c::_=>letter c|[]=>false)&&decide (run l 0=l.length)
def za3 (s:ByteArray):Bool:=zca s.data.toList&&!has words s
def keys (ps:List ByteArray):Bool:=(ps.getLast?.getD ByteArray.empty).toList.isEmpty&&ps.dropLast.all (fun p=>zca p.data.toList)&&decide (ps.length<=5)
def sel (s:ByteArray):Bool:=has zad s||(if 1<(Cuts.parts s 58).length then keys (Cuts.parts s 58) else za3 s)
def zar (s:ByteArray):Int:=if sel s then (if has zad s then 1 else ((Cuts.parts s 58).length:Int)-1) else -1
theorem z1m (s:ByteArray) (b:Int) (h:(Cuts.parts s b).length=1):Cuts.parts s b=[s]:=by
 have hl:(Cuts.cuts s b s.size).1=[]:=by unfold Cuts.parts at h;simp at h;exact h
 have h0:∀ i,(Cuts.cuts s b i).1=[]->(Cuts.cuts s b i).2=0:=by
  intro i
  induction i with
  | zero=>intro _;rfl
  | succ i ih=>
   rw[Cuts.cuts]
   split
   ·split
    ·intro h;simp at h
    ·exact ih
   ·exact ih
 unfold Cuts.parts;rw[hl,h0 s.size hl,List.nil_append]
 congr 1
 apply ByteArray.ext;rw[ByteArray.data_extract];exact Array.extract_size
theorem zq1 (ps:List ByteArray) (n:Nat) (hn:ps.length=n) (h:0<n):(ps.getLast?.getD ByteArray.empty)=ps.getD (n-1) ByteArray.empty:=by subst hn;rw[List.getLast?_eq_getElem?,List.getD]
theorem z1f (ps:List ByteArray) (f:ByteArray->Bool) (i:Nat) (h:i<ps.length) (hf:f ps[i]=false):ps.all f=false:=by rw[List.all_eq_false];exact ⟨ps[i],List.getElem_mem h,by rw[hf];exact Bool.false_ne_true⟩
theorem z3b (ps:List ByteArray) (f:ByteArray->Bool) (h:∀ i (hi:i<ps.length),f ps[i]=true):ps.all f=true:=by rw[List.all_eq_true];intro x hx;obtain ⟨i,hi,rfl⟩:=List.mem_iff_getElem.1 hx;exact h i hi
theorem drop_at (ps:List ByteArray) (i:Nat) (h:i<ps.length-1):∃ h':i<ps.dropLast.length,ps.dropLast[i]'h'=ps[i]'(by omega):=
 ⟨by rw[List.length_dropLast];exact h,List.getElem_dropLast _⟩
theorem yar (ps:List ByteArray) (i:Nat) (h:i<ps.length-1) (hf:zca (ps[i]'(by omega)).data.toList=false):keys ps=false:=by
 obtain ⟨h',e⟩:=drop_at ps i h;unfold keys;rw[z1f ps.dropLast (fun p=>zca p.data.toList) i h' (by rw[e];exact hf)]
 simp
theorem z7w (ps:List ByteArray) (he:(ps.getLast?.getD ByteArray.empty).toList.isEmpty=true) (h:∀ i (hi:i<ps.length-1),zca (ps[i]'(by omega)).data.toList=true):keys ps=decide (ps.length<=5):=by
 unfold keys
 rw[he,z3b ps.dropLast (fun p=>zca p.data.toList) (fun i hi=>by
  have hi':i<ps.length-1:=by rw[List.length_dropLast] at hi;exact hi
  obtain ⟨_,e⟩:=drop_at ps i hi';rw[e];exact h i hi')]
 rfl
def begins (s:ByteArray) (i:Nat) (x:ByteArray):Bool:=decide (i+x.size<=s.size)&&((s.extract i (i+x.size)).toList==x.toList)
def starts (s:ByteArray) (i:Nat) (xs:List ByteArray):ByteArray:=(xs.find? (begins s i)).getD ByteArray.empty
theorem zun (s:ByteArray) (i:Nat) (xs:List ByteArray) (k:Nat) (h:k<xs.length) (hb:begins s i xs[k]=true) (hno:∀ j (hj:j<xs.length),j<k->begins s i xs[j]=false):starts s i xs=xs[k]:=by
 unfold starts
 have:xs.find? (begins s i)=some xs[k]:=by rw[List.find?_eq_some_iff_getElem];exact ⟨hb,k,h,rfl,fun j hj=>by simp[hno j (by omega) hj]⟩
 rw[this];rfl
theorem zqs (s:ByteArray) (i:Nat) (xs:List ByteArray) (hno:∀ j (hj:j<xs.length),begins s i xs[j]=false):starts s i xs=ByteArray.empty:=by
 unfold starts
 have:xs.find? (begins s i)=none:=by rw[List.find?_eq_none];intro x hx;obtain ⟨j,hj,rfl⟩:=List.mem_iff_getElem.1 hx;rw[hno j hj];exact Bool.false_ne_true
 rw[this];rfl
theorem zbz (s:ByteArray) (i:Nat) (xs:List ByteArray) (n:Nat) (h:∀ x∈xs,x.size<=n):(starts s i xs).size<=n:=by
 unfold starts;cases hf:xs.find? (begins s i) with
 | none=>exact Nat.zero_le _
 | some x=>exact h x (List.mem_of_find?_eq_some hf)
structure T where
 kind:Int
 text:ByteArray
 num:Int
def zk8 (l:List UInt8) (i:Nat):Nat:=i+((l.drop i).takeWhile digit).length
theorem zu3 (l:List UInt8) (i:Nat) (h:∀ (hi:i<l.length),digit l[i]=false):zk8 l i=i:=by
 unfold zk8;by_cases hi:i<l.length
 ·rw[List.drop_eq_getElem_cons hi,List.takeWhile_cons,h hi];rfl
 ·rw[List.drop_of_length_le (by omega)];rfl
theorem z5e (l:List UInt8) (i:Nat) (hi:i<l.length) (h:digit l[i]=true):zk8 l i=zk8 l (i+1):=by unfold zk8;rw[List.drop_eq_getElem_cons hi,List.takeWhile_cons,h];simp;omega
theorem z1g (l:List UInt8) (i:Nat):i<=zk8 l i:=by unfold zk8;omega
def zsx (l:List UInt8):Nat:=l.foldl (fun a c=>10*a+(c.toNat-48)) 0
theorem zl8 (l:List UInt8) (c:UInt8):zsx (l++[c])=10*zsx l+(c.toNat-48):=by simp[zsx]
def za9 (l:List UInt8) (i:Nat):Bool:=match l[i]? with|some c=>letter c|none=>false
def number (l:List UInt8) (i:Nat):Option (T×Nat):=
 if 9<zk8 l i-i then none else if za9 l (zk8 l i)=true then none else some (⟨3,ByteArray.empty,zsx ((l.drop i).take (zk8 l i-i))⟩,zk8 l i)
def nameAt (s:ByteArray) (i:Nat):Option (T×Nat):=
 let e:=run s.data.toList i
 let x:=s.extract i e
 if 20<e-i then none
 else if zdr s.data.toList e=true then some (⟨2,x++⟨#[58]⟩,0⟩,e+1)
 else some (⟨if has words x=true then 8 else 1,x,0⟩,e)
theorem z2j (l:List UInt8) (p i:Nat) (hp:p<=i) (h:i<l.length):(l.drop p).take (i+1-p)=(l.drop p).take (i-p)++[l[i]]:=by
 have h1:i-p<(l.drop p).length:=by rw[List.length_drop];omega
 rw[show i+1-p=(i-p)+1 by omega,List.take_succ_eq_append_getElem h1,List.getElem_drop]
 congr 2
 simp[show p+(i-p)=i by omega]
theorem zv5 (l:List UInt8) (p:Nat) (h:9<zk8 l p-p):number l p=none:=by unfold number;rw[if_pos h]
theorem zro (l:List UInt8) (p i:Nat) (h:zk8 l p=i) (hl:za9 l i=true):number l p=none:=by unfold number;rw[h,if_pos hl];split<;>rfl
theorem zt2 (l:List UInt8) (p i:Nat) (h:zk8 l p=i) (h9:¬9<i-p) (hl:za9 l i=false):number l p=some (⟨3,ByteArray.empty,zsx ((l.drop p).take (i-p))⟩,i):=by unfold number;rw[h,if_neg h9,hl];rfl
def quo (l:List UInt8):Nat->Nat->List UInt8->Option (List UInt8×Nat)
 | 0,_,_=>none
 | f+1,i,out=>
  match l[i]? with
  | none=>none
  | some c=>if c=39 then (if l[i+1]?=some 39 then quo l f (i+2) (out++[39]) else some (out,i+1)) else if 32<=c.toNat/\c.toNat<=126 then quo l f (i+1) (out++[c]) else none
def quoted (l:List UInt8) (p:Nat):Option (T×Nat):=
 match quo l (l.length+1) (p+1) [] with
 | some (out,e)=>if out.length<=40 then some (⟨4,⟨out.toArray⟩,0⟩,e) else none
 | none=>none
theorem zm7 (l:List UInt8) (f i:Nat) (out:List UInt8) (h:¬i<l.length):quo l f i out=none:=by
 cases f with
 | zero=>rfl
 | succ f=>rw[quo,List.getElem?_eq_none (by omega)]
theorem z5t (l:List UInt8) (f i:Nat) (out:List UInt8) (h:i<l.length) (hc:l[i]=39) (h2:l[i+1]?=some 39):quo l (f+1) i out=quo l f (i+2) (out++[39]):=by rw[quo,List.getElem?_eq_getElem h];simp only[hc,if_true,h2]
theorem zx1 (l:List UInt8) (f i:Nat) (out:List UInt8) (h:i<l.length) (hc:l[i]=39) (h2:¬l[i+1]?=some 39):quo l (f+1) i out=some (out,i+1):=by rw[quo,List.getElem?_eq_getElem h];simp only[hc,if_true,if_neg h2]
theorem yai (l:List UInt8) (f i:Nat) (out:List UInt8) (h:i<l.length) (hc:¬l[i]=39) (h2:32<=l[i].toNat/\l[i].toNat<=126):quo l (f+1) i out=quo l f (i+1) (out++[l[i]]):=by rw[quo,List.getElem?_eq_getElem h];simp only[if_neg hc,if_pos h2]
theorem zwg (l:List UInt8) (f i:Nat) (out:List UInt8) (h:i<l.length) (hc:¬l[i]=39) (h2:¬(32<=l[i].toNat/\l[i].toNat<=126)):quo l (f+1) i out=none:=by rw[quo,List.getElem?_eq_getElem h];simp only[if_neg hc,if_neg h2]
theorem zk6 (l:List UInt8) (p:Nat) (h:quo l (l.length+1) (p+1) []=none):quoted l p=none:=by unfold quoted;rw[h]
theorem zom (l:List UInt8) (p e:Nat) (out:List UInt8) (h:quo l (l.length+1) (p+1) []=some (out,e)):quoted l p=if out.length<=40 then some (⟨4,⟨out.toArray⟩,0⟩,e) else none:=by unfold quoted;rw[h]
def zeo (l:List UInt8):Nat->Nat->Nat
 | 0,e=>e
 | f+1,e=>if e<run l e/\zdr l (run l e)=true then zeo l f (run l e+1) else e
theorem zgw (l:List UInt8) (f e:Nat) (h:¬(e<run l e/\zdr l (run l e)=true)):zeo l f e=e:=by
 cases f with
 | zero=>rfl
 | succ f=>rw[zeo,if_neg h]
theorem zsb (l:List UInt8) (f e:Nat) (h:e<run l e/\zdr l (run l e)=true):zeo l (f+1) e=zeo l f (run l e+1):=by rw[zeo,if_pos h]
def zfb (l:List UInt8) (p:Nat):Nat:=if zdr l (run l p)=true then zeo l (l.length+1) (run l p+1) else run l p
def zax (s:ByteArray) (p:Nat):Option (T×Nat):=
 let op:=starts s p zad
 if op.toList.isEmpty=false then some (⟨5,op,0⟩,p+op.size)
 else if za9 s.data.toList p=false then none
 else
  let x:=s.extract p (zfb s.data.toList p)
  if sel x=true then some (⟨5,x,0⟩,zfb s.data.toList p) else none
theorem zma (s:ByteArray) (p:Nat) (h:(starts s p zad).toList.isEmpty=false):zax s p=some (⟨5,starts s p zad,0⟩,p+(starts s p zad).size):=by unfold zax;simp only[h,if_true]
theorem zla (s:ByteArray) (p:Nat) (h:(starts s p zad).toList.isEmpty=true) (hl:za9 s.data.toList p=false):zax s p=none:=by unfold zax;simp only[h,hl,if_true];rfl
theorem zhk (s:ByteArray) (p e:Nat) (h:(starts s p zad).toList.isEmpty=true) (hl:za9 s.data.toList p=true) (he:zfb s.data.toList p=e):zax s p=if sel (s.extract p e)=true then some (⟨5,s.extract p e,0⟩,e) else none:=by unfold zax;simp only[h,hl,he];rfl
def next (s:ByteArray) (p:Nat) (c:UInt8):Option (T×Nat):=
 if letter c=true then nameAt s p
 else if digit c=true then number s.data.toList p
 else if c=39 then quoted s.data.toList p
 else if c=35 then zax s (p+1)
 else if (starts s p zad).toList.isEmpty=false then some (⟨6,starts s p zad,0⟩,p+(starts s p zad).size)
 else if (starts s p marks).toList.isEmpty=false then some (⟨7,starts s p marks,0⟩,p+(starts s p marks).size)
 else none
end Tok
namespace Tok
theorem z16 (l:List UInt8) (p:Nat) (h:p<l.length) (ha:zcy l[p]=true):p<run l p/\run l p<=l.length:=by rw[z6h l p h ha];have:=zlg l (p+1) (by omega);omega
theorem yat (l:List UInt8) (i:Nat) (hi:i<=l.length):zk8 l i<=l.length:=by unfold zk8;have:=(List.takeWhile_prefix (p:=digit) (l:=l.drop i)).length_le;simp at this;omega
theorem zaj (s:ByteArray):s.data.toList.length=s.size:=by rw[Array.length_toList];rfl
theorem z6e (s:ByteArray) (p:Nat) (h:p<s.data.toList.length) (hl:letter s.data.toList[p]=true) (t:T) (e:Nat) (hn:nameAt s p=some (t,e)):p<e/\e<=s.size/\t.kind≠0:=by
 have hr:=z16 s.data.toList p h (by unfold zcy;rw[hl];rfl);have hls:=zaj s;unfold nameAt at hn;simp only at hn
 split at hn
 ·cases hn
 ·split at hn
  ·next hc=>have:=ze7 _ _ hc;simp only[Option.some.injEq,Prod.mk.injEq] at hn;obtain ⟨rfl,rfl⟩:=hn;exact ⟨by omega,by omega,(by decide:(2:Int)≠0)⟩
  ·simp only[Option.some.injEq,Prod.mk.injEq] at hn
   obtain ⟨rfl,rfl⟩:=hn;refine ⟨by omega,by omega,?_⟩
   show (if _ then (8:Int) else 1)≠0
   split<;>decide
theorem zvy (l:List UInt8) (p:Nat) (h:p<l.length) (hd:digit l[p]=true) (t:T) (e:Nat) (hn:number l p=some (t,e)):p<e/\e<=l.length/\t.kind≠0:=by
 have h1:=z5e l p h hd;have h2:=z1g l (p+1);have h3:=yat l p (by omega);unfold number at hn
 split at hn
 ·cases hn
 ·split at hn
  ·cases hn
  ·simp only[Option.some.injEq,Prod.mk.injEq] at hn
   obtain ⟨rfl,rfl⟩:=hn;exact ⟨by omega,h3,(by decide:(3:Int)≠0)⟩
theorem z8j (l:List UInt8) (f:Nat):∀ i out o e,quo l f i out=some (o,e)->i<e/\e<=l.length:=by
 induction f with
 | zero=>intro i out o e h;cases h
 | succ f ih=>
  intro i out o e h;rw[quo] at h;by_cases hi:i<l.length
  ·rw[List.getElem?_eq_getElem hi] at h
   simp only at h
   split at h
   ·split at h
    ·have:=ih _ _ _ _ h;omega
    ·simp only[Option.some.injEq,Prod.mk.injEq] at h;omega
   ·split at h
    ·have:=ih _ _ _ _ h;omega
    ·cases h
  ·rw[List.getElem?_eq_none (by omega)] at h;cases h
theorem zvp (l:List UInt8) (p:Nat) (t:T) (e:Nat) (hn:quoted l p=some (t,e)):p<e/\e<=l.length/\t.kind≠0:=by
 unfold quoted at hn;cases hq:quo l (l.length+1) (p+1) [] with
 | none=>rw[hq] at hn;cases hn
 | some r=>
  obtain ⟨o,e'⟩:=r;have:=z8j l _ _ _ _ _ hq;rw[hq] at hn;simp only at hn
  split at hn
  ·simp only[Option.some.injEq,Prod.mk.injEq] at hn
   obtain ⟨rfl,rfl⟩:=hn;exact ⟨by omega,by omega,(by decide:(4:Int)≠0)⟩
  ·cases hn
theorem zn8 (l:List UInt8) (f:Nat):∀ e,e<=l.length->e<=zeo l f e/\zeo l f e<=l.length:=by
 induction f with
 | zero=>intro e h;exact ⟨zL _,h⟩
 | succ f ih=>
  intro e h;rw[zeo]
  split
  ·next hc=>have:=ze7 _ _ hc.2;have:=ih (run l e+1) (by omega);omega
  ·omega
theorem zm2 (s:ByteArray) (p:Nat) (xs:List ByteArray) (h:(starts s p xs).toList.isEmpty=false):0<(starts s p xs).size/\p+(starts s p xs).size<=s.size:=by
 unfold starts at *;cases hf:xs.find? (begins s p) with
 | none=>rw[hf,ByteArray.toList_eq] at h;exact absurd h (by decide)
 | some x=>
  rw[hf] at h;have hb:=List.find?_some hf;unfold begins at hb;rw[Bool.and_eq_true,decide_eq_true_eq] at hb;refine ⟨?_,hb.1⟩;show 0<x.size
  rcases Nat.eq_zero_or_pos x.size with h0|h0
  ·have h1:x.data.toList=[]:=List.eq_nil_of_length_eq_zero (by rw[zaj];exact h0)
   have h2:x.toList=[]:=by rw[ByteArray.toList_eq,h1]
   simp only[Option.getD_some,h2] at h;exact absurd h (by decide)
  ·exact h0
theorem zri (s:ByteArray) (p:Nat) (t:T) (e:Nat) (hn:zax s p=some (t,e)):p<e/\e<=s.size/\t.kind≠0:=by
 have hls:=zaj s;unfold zax at hn;simp only at hn
 split at hn
 ·next h0=>have:=zm2 s p zad h0;simp only[Option.some.injEq,Prod.mk.injEq] at hn;obtain ⟨rfl,rfl⟩:=hn;exact ⟨by omega,by omega,(by decide:(5:Int)≠0)⟩
 ·split at hn
  ·cases hn
  ·next hla=>
   split at hn
   ·simp only[Option.some.injEq,Prod.mk.injEq] at hn
    obtain ⟨rfl,rfl⟩:=hn
    have hlt:p<s.data.toList.length:=by
     rcases Nat.lt_or_ge p s.data.toList.length with h1|h1
     ·exact h1
     ·exact absurd (by unfold za9;rw[List.getElem?_eq_none h1]) hla
    have hl:letter s.data.toList[p]=true:=by
     unfold za9 at hla;rw[List.getElem?_eq_getElem hlt] at hla
     simpa using hla
    have hr:=z16 s.data.toList p hlt (by unfold zcy;rw[hl];rfl);refine ⟨?_,?_,(by decide:(5:Int)≠0)⟩
    ·unfold zfb
     split
     ·next hc=>have:=zn8 s.data.toList (s.data.toList.length+1) (run s.data.toList p+1) (by have:=ze7 _ _ hc;omega);omega
     ·exact hr.1
    ·unfold zfb
     split
     ·next hc=>have:=zn8 s.data.toList (s.data.toList.length+1) (run s.data.toList p+1) (by have:=ze7 _ _ hc;omega);omega
     ·omega
   ·cases hn
theorem zg1 (s:ByteArray) (p:Nat) (h:p<s.data.toList.length) (t:T) (e:Nat) (hn:next s p s.data.toList[p]=some (t,e)):p<e/\e<=s.size/\t.kind≠0:=by
 have hls:=zaj s;unfold next at hn
 split at hn
 ·next hl=>exact z6e s p h hl t e hn
 ·split at hn
  ·next hd=>have:=zvy _ p h hd t e hn;omega
  ·split at hn
   ·have:=zvp _ p t e hn;omega
   ·split at hn
    ·have:=zri s (p+1) t e hn;omega
    ·split at hn
     ·next h0=>have:=zm2 s p zad h0;simp only[Option.some.injEq,Prod.mk.injEq] at hn;obtain ⟨rfl,rfl⟩:=hn;exact ⟨by omega,by omega,(by decide:(6:Int)≠0)⟩
     ·split at hn
      ·next h0=>have:=zm2 s p marks h0;simp only[Option.some.injEq,Prod.mk.injEq] at hn;obtain ⟨rfl,rfl⟩:=hn;exact ⟨by omega,by omega,(by decide:(7:Int)≠0)⟩
      ·cases hn
def zlp (l:List UInt8) (i:Nat):Nat:=i+((l.drop i).takeWhile fun c=>!(c==34)).length
theorem zti (l:List UInt8) (i:Nat) (h:∀ hi:i<l.length,l[i]=34):zlp l i=i:=by
 unfold zlp;by_cases hi:i<l.length
 ·rw[List.drop_eq_getElem_cons hi,List.takeWhile_cons,h hi];rfl
 ·rw[List.drop_of_length_le (by omega)];rfl
theorem yau (l:List UInt8) (i:Nat) (hi:i<l.length) (h:¬l[i]=34):zlp l i=zlp l (i+1):=by unfold zlp;rw[List.drop_eq_getElem_cons hi,List.takeWhile_cons];simp[h];omega
def toks (s:ByteArray):Nat->Nat->List T->Option (List T)
 | 0,_,_=>none
 | f+1,p,acc=>
  match s.data.toList[p]? with
  | none=>some acc
  | some c=>
   if c=32\/c=10\/c=9 then toks s f (p+1) acc
   else if c=34 then (if zlp s.data.toList (p+1)<s.data.toList.length then toks s f (zlp s.data.toList (p+1)+1) acc else none)
   else match next s p c with
    | none=>none
    | some (t,e)=>if 800<=acc.length then none else toks s f e (acc++[t])
def tokens (s:ByteArray):Option (List T):=if 4000<s.size then none else toks s (s.size+1) 0 []
theorem zx7 (s:ByteArray) (f p:Nat) (acc:List T) (h:¬p<s.data.toList.length):toks s (f+1) p acc=some acc:=by rw[toks,List.getElem?_eq_none (by omega)]
theorem zll (s:ByteArray) (f p:Nat) (acc:List T) (h:p<s.data.toList.length) (hc:s.data.toList[p]=32\/s.data.toList[p]=10\/s.data.toList[p]=9):toks s (f+1) p acc=toks s f (p+1) acc:=by rw[toks,List.getElem?_eq_getElem h];simp only[if_pos hc]
theorem zuy (s:ByteArray) (f p:Nat) (acc:List T) (h:p<s.data.toList.length) (hc:s.data.toList[p]=34) (hq:¬zlp s.data.toList (p+1)<s.data.toList.length):toks s (f+1) p acc=none:=by rw[toks,List.getElem?_eq_getElem h];simp only[hc,if_neg hq];rfl
theorem znx (s:ByteArray) (f p q:Nat) (acc:List T) (h:p<s.data.toList.length) (hc:s.data.toList[p]=34) (hq:zlp s.data.toList (p+1)=q) (hl:q<s.data.toList.length):toks s (f+1) p acc=toks s f (q+1) acc:=by rw[toks,List.getElem?_eq_getElem h];simp only[hc,hq,if_pos hl];rfl
theorem ztu (s:ByteArray) (f p:Nat) (acc:List T) (h:p<s.data.toList.length) (hc:¬(s.data.toList[p]=32\/s.data.toList[p]=10\/s.data.toList[p]=9)) (hq:¬s.data.toList[p]=34) (hn:next s p s.data.toList[p]=none):toks s (f+1) p acc=none:=by rw[toks,List.getElem?_eq_getElem h];simp only[if_neg hc,if_neg hq,hn]
theorem zs3 (s:ByteArray) (f p:Nat) (acc:List T) (h:p<s.data.toList.length) (hc:¬(s.data.toList[p]=32\/s.data.toList[p]=10\/s.data.toList[p]=9)) (hq:¬s.data.toList[p]=34) (t:T) (e:Nat) (hn:next s p s.data.toList[p]=some (t,e)) (h8:800<=acc.length):toks s (f+1) p acc=none:=by rw[toks,List.getElem?_eq_getElem h];simp only[if_neg hc,if_neg hq,hn,if_pos h8]
theorem ztd (s:ByteArray) (f p:Nat) (acc:List T) (h:p<s.data.toList.length) (hc:¬(s.data.toList[p]=32\/s.data.toList[p]=10\/s.data.toList[p]=9)) (hq:¬s.data.toList[p]=34) (t:T) (e:Nat) (hn:next s p s.data.toList[p]=some (t,e)) (h8:¬800<=acc.length):toks s (f+1) p acc=toks s f e (acc++[t]):=by rw[toks,List.getElem?_eq_getElem h];simp only[if_neg hc,if_neg hq,hn,if_neg h8]
theorem zpm (s:ByteArray) (h:4000<s.size):tokens s=none:=by unfold tokens;rw[if_pos h]
theorem znp (s:ByteArray) (h:¬4000<s.size):tokens s=toks s (s.size+1) 0 []:=by unfold tokens;rw[if_neg h]
end Tok
namespace Tok
theorem zl7 {a b:ByteArray} (h:a.data.toList=b.data.toList):a=b:=ByteArray.ext (Array.toList_inj.1 h)
theorem zbp (s:ByteArray) (a b:Nat):(s.extract a b).data.toList=(s.data.toList.drop a).take (b-a):=Lib.extract_data s a b
def rest (s:ByteArray) (p:Nat):ByteArray:=s.extract p s.size
theorem zc8 (s:ByteArray) (p:Nat):(rest s p).data.toList=s.data.toList.drop p:=by unfold rest;rw[zbp];exact List.take_of_length_le (by rw[List.length_drop,zaj];omega)
theorem zfh (s:ByteArray) (p:Nat):(rest s p).size=s.size-p:=by rw[<-zaj,zc8,List.length_drop,zaj]
theorem zsy (s:ByteArray):rest s 0=s:=zl7 (by rw[zc8];rfl)
theorem z5o (s:ByteArray) (p q:Nat):rest (rest s p) q=rest s (p+q):=zl7 (by rw[zc8,zc8,zc8,List.drop_drop])
theorem zhf (s:ByteArray) (p a b:Nat):(rest s p).extract a b=s.extract (p+a) (p+b):=by apply zl7;rw[zbp,zbp,zc8,List.drop_drop,show p+b-(p+a)=b-a by omega]
theorem zn5 (l:List UInt8) (p i:Nat):run l (p+i)=p+run (l.drop p) i:=by unfold run;rw[List.drop_drop];omega
theorem z5x (l:List UInt8) (p i:Nat):zk8 l (p+i)=p+zk8 (l.drop p) i:=by unfold zk8;rw[List.drop_drop];omega
theorem zjy (l:List UInt8) (p i:Nat):zdr l (p+i)=zdr (l.drop p) i:=by unfold zdr;rw[List.getElem?_drop,List.getElem?_drop,Nat.add_assoc]
theorem zlt (l:List UInt8) (p i:Nat):za9 l (p+i)=za9 (l.drop p) i:=by unfold za9;rw[List.getElem?_drop]
theorem zwu (s:ByteArray) (p i:Nat) (x:ByteArray) (hp:p<=s.size):begins s (p+i) x=begins (rest s p) i x:=by
 unfold begins;rw[zhf,zfh,Nat.add_assoc]
 congr 1
 rw[Bool.eq_iff_iff,decide_eq_true_eq,decide_eq_true_eq];omega
theorem zoi (s:ByteArray) (p i:Nat) (xs:List ByteArray) (hp:p<=s.size):starts s (p+i) xs=starts (rest s p) i xs:=by
 unfold starts
 congr 2
 funext x
 exact zwu s p i x hp
def shift (p:Nat) (r:Option (T×Nat)):Option (T×Nat):=r.map fun x=>(x.1,p+x.2)
theorem z4v (s:ByteArray) (p i:Nat):nameAt s (p+i)=shift p (nameAt (rest s p) i):=by
 unfold nameAt shift;simp only[zc8,zn5,zhf,zjy,show p+run (s.data.toList.drop p) i-(p+i)=run (s.data.toList.drop p) i-i by omega]
 split
 ·rfl
 ·split
  ·rfl
  ·rfl
theorem zw2 (l:List UInt8) (p i:Nat):number l (p+i)=shift p (number (l.drop p) i):=by
 unfold number shift;simp only[z5x,zlt,List.drop_drop,show p+zk8 (l.drop p) i-(p+i)=zk8 (l.drop p) i-i by omega]
 split
 ·rfl
 ·split
  ·rfl
  ·rfl
theorem z8e (l:List UInt8):∀ (f g i:Nat) (out:List UInt8),l.length<f+i->l.length<g+i->quo l f i out=quo l g i out:=by
 intro f
 induction f with
 | zero=>intro g i out h1 h2;rw[zm7 l 0 i out (by omega),zm7 l g i out (by omega)]
 | succ f ih=>
  intro g i out h1 h2
  match g with
  | 0=>rw[zm7 l 0 i out (by omega),zm7 l (f+1) i out (by omega)]
  | g+1=>
   rw[quo,quo];by_cases hi:i<l.length
   ·rw[List.getElem?_eq_getElem hi]
    simp only;rw[ih g (i+2) _ (by omega) (by omega),ih g (i+1) _ (by omega) (by omega)]
   ·rw[List.getElem?_eq_none (by omega)]
theorem z7k (l:List UInt8) (p:Nat):∀ (f i:Nat) (out:List UInt8),quo l f (p+i) out=(quo (l.drop p) f i out).map fun x=>(x.1,p+x.2):=by
 intro f
 induction f with
 | zero=>intro i out;rfl
 | succ f ih=>
  intro i out;rw[quo,quo,List.getElem?_drop,List.getElem?_drop,<-Nat.add_assoc];cases hc:l[p+i]? with
  | none=>rfl
  | some c=>
   simp only;rw[show p+i+2=p+(i+2) by omega,show p+i+1=p+(i+1) by omega,ih,ih]
   split
   ·split
    ·rfl
    ·rfl
   ·split
    ·rfl
    ·rfl
theorem zxy (l:List UInt8) (p i:Nat) (hp:p<=l.length):quoted l (p+i)=shift p (quoted (l.drop p) i):=by
 unfold quoted;rw[z8e l (l.length+1) ((l.drop p).length+1) (p+i+1) [] (by omega) (by rw[List.length_drop];omega),Nat.add_assoc,z7k];cases quo (l.drop p) ((l.drop p).length+1) (i+1) [] with
 | none=>rfl
 | some r=>
  obtain ⟨o,e⟩:=r;simp only[Option.map_some]
  split
  ·rfl
  ·rfl
theorem zqv (l:List UInt8):∀ (f g e:Nat),l.length<f+e->l.length<g+e->zeo l f e=zeo l g e:=by
 have far:∀ e f,l.length<=e->zeo l f e=e:=by intro e f h;refine zgw l f e ?_;rw[zld l e (fun hi=>by omega)];omega
 intro f
 induction f with
 | zero=>intro g e h1 h2;rw[far e 0 (by omega),far e g (by omega)]
 | succ f ih=>
  intro g e h1 h2
  match g with
  | 0=>rw[far e 0 (by omega),far e (f+1) (by omega)]
  | g+1=>
   rw[zeo,zeo];by_cases h:e<run l e/\zdr l (run l e)=true
   ·rw[if_pos h,if_pos h,ih g _ (by omega) (by omega)]
   ·rw[if_neg h,if_neg h]
theorem z0t (l:List UInt8) (p:Nat):∀ (f e:Nat),zeo l f (p+e)=p+zeo (l.drop p) f e:=by
 intro f
 induction f with
 | zero=>intro e;rfl
 | succ f ih=>
  intro e;rw[zeo,zeo,zn5,zjy];by_cases h:e<run (l.drop p) e/\zdr (l.drop p) (run (l.drop p) e)=true
  ·rw[if_pos (⟨by omega,h.2⟩:p+e<p+run (l.drop p) e/\_),if_pos h,Nat.add_assoc,ih]
  ·rw[if_neg (fun h'=>h ⟨by omega,h'.2⟩),if_neg h]
theorem zwn (l:List UInt8) (p i:Nat) (hp:p<=l.length):zfb l (p+i)=p+zfb (l.drop p) i:=by
 unfold zfb;rw[zn5,zjy]
 split
 ·rw[zqv l (l.length+1) ((l.drop p).length+1) (p+run (l.drop p) i+1) (by omega) (by rw[List.length_drop];omega),Nat.add_assoc,z0t]
 ·rfl
theorem zji (s:ByteArray) (p i:Nat) (hp:p<=s.size):zax s (p+i)=shift p (zax (rest s p) i):=by
 unfold zax shift;simp only[zc8,zoi s p i _ hp,zlt,zwn s.data.toList p i (by rw[zaj];exact hp),zhf]
 split
 ·simp only[Option.map_some,Nat.add_assoc]
 ·split
  ·rfl
  ·split
   ·rfl
   ·rfl
theorem z3x (s:ByteArray) (p:Nat) (c:UInt8) (hp:p<=s.size):next s p c=shift p (next (rest s p) 0 c):=by
 have e1:=z4v s p 0;have e2:=zw2 s.data.toList p 0;have e3:=zxy s.data.toList p 0 (by rw[zaj];exact hp);have e4:=zji s p 1 hp;have e5:=fun xs=>zoi s p 0 xs hp
 simp only[Nat.add_zero] at e1 e2 e3 e5;unfold next;rw[e1,e2,e3,e4,e5,e5,zc8]
 split
 ·rfl
 ·split
  ·rfl
  ·split
   ·rfl
   ·split
    ·rfl
    ·split
     ·unfold shift;simp only[Option.map_some,Nat.zero_add]
     ·split
      ·unfold shift;simp only[Option.map_some,Nat.zero_add]
      ·rfl
theorem z1v (s:ByteArray):∀ (f g p:Nat) (acc:List T),p<=s.size->s.size<f+p->s.size<g+p->toks s f p acc=toks s g p acc:=by
 have hls:=zaj s;intro f
 induction f with
 | zero=>intro g p acc h0 h1 h2;omega
 | succ f ih=>
  intro g p acc h0 h1 h2
  match g,h2 with
  | 0,h2=>omega
  | g+1,h2=>
   rw[toks,toks];by_cases hi:p<s.data.toList.length
   ·rw[List.getElem?_eq_getElem hi]
    simp only;rw[ih g (p+1) acc (by omega) (by omega) (by omega)];by_cases hq:zlp s.data.toList (p+1)<s.data.toList.length
    ·have hge:p+1<=zlp s.data.toList (p+1):=by unfold zlp;omega
     rw[ih g (zlp s.data.toList (p+1)+1) acc (by omega) (by omega) (by omega)]
     split
     ·rfl
     ·split
      ·rfl
      ·cases hn:next s p s.data.toList[p] with
       | none=>rfl
       | some r=>obtain ⟨t,e⟩:=r;have:=zg1 s p hi t e hn;simp only;rw[ih g e (acc++[t]) (by omega) (by omega) (by omega)]
    ·rw[if_neg hq,if_neg hq]
     split
     ·rfl
     ·split
      ·rfl
      ·cases hn:next s p s.data.toList[p] with
       | none=>rfl
       | some r=>obtain ⟨t,e⟩:=r;have:=zg1 s p hi t e hn;simp only;rw[ih g e (acc++[t]) (by omega) (by omega) (by omega)]
   ·rw[List.getElem?_eq_none (by omega)]
def from_ (s:ByteArray) (p:Nat) (acc:List T):Option (List T):=toks s (s.size+1) p acc
theorem zoq (s:ByteArray) (f p:Nat) (acc:List T) (hp:p<=s.size) (hf:s.size<f+p):toks s f p acc=from_ s p acc:=z1v s f (s.size+1) p acc hp hf (by omega)
theorem z7t (s:ByteArray) (p:Nat) (acc:List T) (h:¬p<s.size):from_ s p acc=some acc:=zx7 s s.size p acc (by rw[zaj];exact h)
theorem z6c (s:ByteArray) (p:Nat) (acc:List T) (h:p<s.data.toList.length) (hc:s.data.toList[p]=32\/s.data.toList[p]=10\/s.data.toList[p]=9):from_ s p acc=from_ s (p+1) acc:=by have:=zaj s;rw[<-zoq s s.size (p+1) acc (by omega) (by omega)];exact zll s s.size p acc h hc
theorem z4l (s:ByteArray) (p:Nat) (acc:List T) (h:p<s.data.toList.length) (hc:s.data.toList[p]=34) (hq:¬zlp s.data.toList (p+1)<s.data.toList.length):from_ s p acc=none:=zuy s s.size p acc h hc hq
theorem zuw (s:ByteArray) (p q:Nat) (acc:List T) (h:p<s.data.toList.length) (hc:s.data.toList[p]=34) (hq:zlp s.data.toList (p+1)=q) (hl:q<s.data.toList.length):from_ s p acc=from_ s (q+1) acc:=by
 have h1:=zaj s;have h2:p+1<=q:=by rw[<-hq];unfold zlp;omega
 rw[<-zoq s s.size (q+1) acc (by omega) (by omega)];exact znx s s.size p q acc h hc hq hl
theorem z4d (s:ByteArray) (p:Nat) (acc:List T) (h:p<s.data.toList.length) (hc:¬(s.data.toList[p]=32\/s.data.toList[p]=10\/s.data.toList[p]=9)) (hq:¬s.data.toList[p]=34) (hn:next s p s.data.toList[p]=none):from_ s p acc=none:=ztu s s.size p acc h hc hq hn
theorem z1s (s:ByteArray) (p:Nat) (acc:List T) (h:p<s.data.toList.length) (hc:¬(s.data.toList[p]=32\/s.data.toList[p]=10\/s.data.toList[p]=9)) (hq:¬s.data.toList[p]=34) (t:T) (e:Nat) (hn:next s p s.data.toList[p]=some (t,e)) (h8:800<=acc.length):from_ s p acc=none:=zs3 s s.size p acc h hc hq t e hn h8
theorem z4h (s:ByteArray) (p:Nat) (acc:List T) (h:p<s.data.toList.length) (hc:¬(s.data.toList[p]=32\/s.data.toList[p]=10\/s.data.toList[p]=9)) (hq:¬s.data.toList[p]=34) (t:T) (e:Nat) (hn:next s p s.data.toList[p]=some (t,e)) (h8:¬800<=acc.length):from_ s p acc=from_ s e (acc++[t]):=by have h1:=zaj s;have h2:=zg1 s p h t e hn;rw[<-zoq s s.size e (acc++[t]) (by omega) (by omega)];exact ztd s s.size p acc h hc hq t e hn h8
end Tok
namespace Tok
theorem zmg (s:ByteArray) (i:Nat) (x:ByteArray) (hi:i<=s.size):begins s i x=x.data.toList.isPrefixOf (s.data.toList.drop i):=by
 unfold begins;rw[ByteArray.toList_eq,ByteArray.toList_eq,zbp,Bool.eq_iff_iff,Bool.and_eq_true,decide_eq_true_eq,beq_iff_eq,List.isPrefixOf_iff_prefix,show i+x.size-i=x.size by omega,List.prefix_iff_eq_take,zaj]
 constructor
 ·rintro ⟨_,h⟩;exact h.symm
 ·intro h
  have h1:=congrArg List.length h;rw[List.length_take,List.length_drop,zaj,zaj] at h1;exact ⟨by omega,h.symm⟩
def zgj (l:List UInt8) (xs:List (List UInt8)):List UInt8:=(xs.find? fun x=>x.isPrefixOf l).getD []
theorem zg3 (s:ByteArray) (i:Nat) (xs:List ByteArray) (hi:i<=s.size):(starts s i xs).data.toList=zgj (s.data.toList.drop i) (xs.map fun x=>x.data.toList):=by
 unfold starts zgj
 induction xs with
 | nil=>rfl
 | cons x xs ih=>
  rw[List.map_cons,List.find?_cons,List.find?_cons,zmg s i x hi];cases x.data.toList.isPrefixOf (s.data.toList.drop i) with
  | true=>rfl
  | false=>exact ih
def yal:List (List UInt8):=[[47,47],[92,92],[60,61],[62,61],[61,61],[126,61],[126,126],[43],[45],[42],[60],[62],[61],[44],[38]]
def z2u:List (List UInt8):=[[58,61],[94],[46],[59],[91],[93],[40],[41],[124],[58]]
theorem zio:zad.map (fun x=>x.data.toList)=yal:=rfl
theorem z5b:marks.map (fun x=>x.data.toList)=z2u:=rfl
theorem z1l:∀ x∈yal,zgj x yal=x:=by decide
theorem zku (l:List UInt8) (xs:List (List UInt8)) (h:zgj l xs≠[]):zgj l xs∈xs/\zgj l xs <+: l:=by
 unfold zgj at *;cases hf:xs.find? fun x=>x.isPrefixOf l with
 | none=>rw[hf] at h;exact absurd rfl h
 | some x=>have h1:=List.mem_of_find?_eq_some hf;have h2:=List.find?_some hf;exact ⟨h1,List.isPrefixOf_iff_prefix.1 h2⟩
theorem zrr (s:ByteArray) (xs:List ByteArray):has xs s=(xs.map fun x=>x.data.toList).contains s.data.toList:=by
 unfold has
 induction xs with
 | nil=>rfl
 | cons x xs ih=>
  rw[List.any_cons,List.map_cons,List.contains_cons,ih,ByteArray.toList_eq,ByteArray.toList_eq]
  congr 1
  rw[Bool.eq_iff_iff,beq_iff_eq,beq_iff_eq,eq_comm]
theorem yfg (s:ByteArray):has zad s=(!s.data.toList.isEmpty&&((starts s 0 zad).toList==s.toList)):=by
 rw[zrr,zio,ByteArray.toList_eq,ByteArray.toList_eq,zg3 s 0 _ (Nat.zero_le _),zio,List.drop_zero];generalize s.data.toList=l;rw[Bool.eq_iff_iff,List.contains_iff_mem,Bool.and_eq_true,beq_iff_eq];constructor
 ·intro h
  refine ⟨?_,z1l l h⟩;cases l with
  | nil=>revert h;decide
  | cons c l=>rfl
 ·rintro ⟨h1,h2⟩
  have h3:zgj l yal≠[]:=by rw[h2];intro h;rw[h] at h1;exact absurd h1 (by decide)
  have:=(zku l yal h3).1
  rwa [h2] at this
theorem z2g (s:ByteArray) (i:Nat) (hi:i<=s.size) (h:(starts s i zad).toList.isEmpty=false):has zad (starts s i zad)=true:=by rw[ByteArray.toList_eq,zg3 s i _ hi,zio] at h;rw[zrr,zio,zg3 s i _ hi,zio,List.contains_iff_mem];refine (zku _ yal ?_).1;intro h1;rw[h1] at h;exact absurd h (by decide)
theorem zjs (s:ByteArray):zdr s.data.toList 0=((starts s 0 marks).toList==ByteArray.toList ⟨#[58]⟩):=by
 rw[ByteArray.toList_eq,ByteArray.toList_eq,zg3 s 0 _ (Nat.zero_le _),z5b,List.drop_zero];generalize s.data.toList=l;unfold zdr
 match l with
 | []=>decide
 | c::l=>
  by_cases hc:c=58
  ·subst hc
   match l with
   | []=>decide
   | d::l=>
    by_cases hd:d=61
    ·subst hd;simp[zgj,z2u,List.isPrefixOf]
    ·simp[zgj,z2u,List.isPrefixOf,hd,Ne.symm hd]
  ·have h1:((c::l)[0]?==some (58:UInt8))=false:=by simpa using hc
   rw[h1,Bool.false_and,eq_comm,beq_eq_false_iff_ne];intro h;have h2:zgj (c::l) z2u≠[]:=by rw[h];decide
   have h3:=(zku (c::l) z2u h2).2;rw[h] at h3;have:(58:UInt8)=c:=(List.cons_prefix_cons.1 h3).1;exact hc this.symm
theorem yb3 (s:ByteArray):((s.extract 0 (run s.data.toList 0)).toList==s.toList)=decide (run s.data.toList 0=s.data.toList.length):=by
 have hr:=zlg s.data.toList 0 (Nat.zero_le _);rw[ByteArray.toList_eq,ByteArray.toList_eq,zbp,List.drop_zero,Nat.sub_zero,Bool.eq_iff_iff,beq_iff_eq,decide_eq_true_eq];constructor
 ·intro h
  have:=congrArg List.length h;rw[List.length_take] at this;omega
 ·intro h
  rw[h];exact List.take_length
theorem zqk (l:List UInt8):zca l=(decide (1<=l.length)&&decide (l.length<=20)&&za9 l 0&&decide (run l 0=l.length)):=by
 cases l with
 | nil=>rfl
 | cons c l=>rfl
theorem zga (s:ByteArray):zca s.data.toList=(decide (s.size<=20)&&za9 s.data.toList 0&&((s.extract 0 (run s.data.toList 0)).toList==s.toList)):=by
 rw[yb3];rw[zqk,zaj];by_cases h0:za9 s.data.toList 0=true
 ·have:1<=s.size:=by
   rw[<-zaj];cases h:s.data.toList with
   | nil=>rw[h] at h0;exact absurd h0 (by decide)
   | cons c l=>simp
  rw[h0,decide_eq_true this];simp
 ·rw[Bool.not_eq_true] at h0
  rw[h0];simp
def zem (s:ByteArray):Nat:=s.data.toList.count 58
theorem zzz (s:ByteArray):∀ i,i<=s.size->(Cuts.cuts s 58 i).1.length=(s.data.toList.take i).count 58:=by
 intro i
 induction i with
 | zero=>intro _;rfl
 | succ i ih=>
  intro h;have h':i<s.data.toList.length:=by rw[zaj];omega
  have hx:s.data.toList[i]'h'=s[i]'(by omega):=rfl;rw[List.take_succ_eq_append_getElem h',List.count_append,hx];by_cases hb:((s[i]'(by omega)).toNat:Int)=58
  ·have:s[i]'(by omega)=(58:UInt8):=UInt8.toNat_inj.1 (by
   have:(s[i]'(by omega)).toNat=58:=by omega
   rw[this];rfl)
   rw[Cuts.zii s 58 i (by omega) hb,List.length_append,ih (by omega),this];rfl
  ·have:¬s[i]'(by omega)=(58:UInt8):=fun h=>hb (by rw[h];rfl)
   rw[Cuts.zg5 s 58 i (by omega) hb,ih (by omega),List.count_singleton];simp[this]
theorem zoz (s:ByteArray):(Cuts.parts s 58).length=zem s+1:=by unfold Cuts.parts zem;rw[List.length_append,zzz s s.size (zL _),<-zaj,List.take_length];rfl
theorem z4o (s:ByteArray) (n:Nat) (hn:n<=s.size):∀ i,i<=n->Cuts.cuts (s.extract 0 n) 58 i=Cuts.cuts s 58 i:=by
 have hsz:(s.extract 0 n).size=n:=by rw[<-zaj,zbp,List.length_take,List.length_drop,zaj];omega
 intro i
 induction i with
 | zero=>intro _;rfl
 | succ i ih=>
  intro h
  have hx:(s.extract 0 n)[i]'(by omega)=s[i]'(by omega):=by
   have h1:i<(s.extract 0 n).data.toList.length:=by rw[zaj];omega
   have h2:i<s.data.toList.length:=by rw[zaj];omega
   show (s.extract 0 n).data.toList[i]'h1=s.data.toList[i]'h2
   simp only[zbp,List.getElem_take,List.getElem_drop,Nat.zero_add]
  by_cases hb:((s[i]'(by omega)).toNat:Int)=58
  ·rw[Cuts.zii s 58 i (by omega) hb,Cuts.zii (s.extract 0 n) 58 i (by omega) (by rw[hx];exact hb),ih (by omega)]
   congr 2
   congr 1
   apply zl7;have:=(Cuts.zsv s 58 i).1;rw[zbp,zbp,zbp,List.drop_zero,Nat.sub_zero,List.drop_take,List.take_take,Nat.min_eq_left (by omega)]
  ·rw[Cuts.zg5 s 58 i (by omega) hb,Cuts.zg5 (s.extract 0 n) 58 i (by omega) (by rw[hx];exact hb),ih (by omega)]
theorem zv7 (s:ByteArray) (n:Nat) (hn:s.size=n+1) (hc:((s[n]'(by omega)).toNat:Int)=58):Cuts.parts s 58=Cuts.parts (s.extract 0 n) 58++[ByteArray.empty]:=by
 have hsz:(s.extract 0 n).size=n:=by rw[<-zaj,zbp,List.length_take,List.length_drop,zaj];omega
 unfold Cuts.parts;rw[hsz,z4o s n (by omega) n (zL _)];rw[hn,Cuts.zii s 58 n (by omega) hc];have h1:s.extract (n+1) (n+1)=ByteArray.empty:=zl7 (by rw[zbp,Nat.sub_self];rfl)
 have h2:(s.extract 0 n).extract (Cuts.cuts s 58 n).2 n=s.extract (Cuts.cuts s 58 n).2 n:=by apply zl7;rw[zbp,zbp,zbp,List.drop_zero,Nat.sub_zero,List.drop_take,List.take_take,Nat.min_self]
 rw[h1,h2]
theorem zwi (s:ByteArray) (n:Nat) (hn:s.size=n+1) (hc:¬((s[n]'(by omega)).toNat:Int)=58):((Cuts.parts s 58).getLast?.getD ByteArray.empty).toList.isEmpty=false:=by
 have h1:(Cuts.parts s 58).getLast?.getD ByteArray.empty=s.extract (Cuts.cuts s 58 s.size).2 s.size:=by unfold Cuts.parts;rw[List.getLast?_append];rfl
 have h2:(Cuts.cuts s 58 s.size).2<=n:=by rw[hn,Cuts.zg5 s 58 n (by omega) hc];exact (Cuts.zsv s 58 n).1
 rw[h1,ByteArray.toList_eq,<-Bool.not_eq_true,List.isEmpty_iff];intro h;have:=congrArg List.length h;rw[zbp,List.length_take,List.length_drop,zaj] at this;simp at this;omega
def args (s:ByteArray):Int:=
 if has zad s=true then 1 else if za3 s=true then 0
 else if Lib.hasSuffix s.data.toList [58]=false then -1 else if 4<zem s then -1
 else if (Cuts.parts (s.extract 0 (s.size-1)) 58).all (fun p=>zca p.data.toList)=true then zem s else -1
theorem zps (s:ByteArray):Lib.hasSuffix s.data.toList [58]=decide (∃ h:0<s.size,((s[s.size-1]'(by omega)).toNat:Int)=58):=by
 unfold Lib.hasSuffix;rw[Bool.eq_iff_iff,decide_eq_true_eq,List.isSuffixOf_iff_suffix];have hl:=zaj s;constructor
 ·rintro ⟨t,h⟩
  have h1:=congrArg List.length h;rw[List.length_append,hl] at h1;simp at h1;refine ⟨by omega,?_⟩
  have h2:s.size-1<s.data.toList.length:=by omega
  show ((s.data.toList[s.size-1]'h2).toNat:Int)=58
  have h3:s.data.toList[s.size-1]?=some 58:=by rw[<-h,List.getElem?_append_right (by omega)];rw[show s.size-1-t.length=0 by omega];rfl
  rw[List.getElem?_eq_getElem h2,Option.some.injEq] at h3;rw[h3];rfl
 ·rintro ⟨h,hc⟩
  have h2:s.size-1<s.data.toList.length:=by omega
  refine ⟨s.data.toList.take (s.size-1),?_⟩
  have h3:s.data.toList[s.size-1]'h2=58:=UInt8.toNat_inj.1 (by
   have:(s.data.toList[s.size-1]'h2).toNat=58:=by have:(((s.data.toList[s.size-1]'h2)).toNat:Int)=58:=hc;omega
   rw[this];rfl)
  have h4:=List.take_succ_eq_append_getElem h2;rw[h3,show s.size-1+1=s.data.toList.length by omega,List.take_length] at h4
  exact h4.symm
theorem zja (s:ByteArray) (h:za3 s=true):zem s=0:=by
 unfold za3 at h;rw[Bool.and_eq_true] at h;have h1:=h.1;unfold zca at h1;simp only[Bool.and_eq_true,decide_eq_true_eq] at h1;have h2:=h1.2;unfold run at h2;rw[List.drop_zero,Nat.zero_add] at h2;have h3:s.data.toList.takeWhile zcy=s.data.toList:=(List.takeWhile_prefix zcy).eq_of_length h2;unfold zem;rw[List.count_eq_zero];intro hm
 have h4:∀ x∈s.data.toList.takeWhile zcy,zcy x=true:=fun x hx=>by have:=List.all_takeWhile (p:=zcy) (l:=s.data.toList);exact List.all_eq_true.1 this x hx
 rw[h3] at h4;exact absurd (h4 58 hm) (by decide)
theorem ycm (s:ByteArray):zar s=args s:=by
 unfold zar args sel;by_cases h1:has zad s=true
 ·rw[h1];rfl
 ·rw[if_neg h1,if_neg h1]
  rw[Bool.not_eq_true] at h1;rw[h1,Bool.false_or,zoz];by_cases h2:za3 s=true
  ·have h3:(if 1<zem s+1 then keys (Cuts.parts s 58) else za3 s)=true:=by
    rw[if_neg (by rw[zja s h2];omega)];exact h2
   rw[h3,if_pos rfl,if_pos h2,zja s h2];rfl
  ·rw[if_neg h2]
   by_cases h3:Lib.hasSuffix s.data.toList [58]=false
   ·rw[if_pos h3]
    by_cases h4:1<zem s+1
    ·rw[if_pos h4]
     have h5:0<s.size:=by
      rcases Nat.eq_zero_or_pos s.size with h|h
      ·have:s.data.toList=[]:=List.eq_nil_of_length_eq_zero (by rw[zaj];exact h)
       unfold zem at h4;rw[this] at h4;simp at h4
      ·exact h
     have h6:¬((s[s.size-1]'(by omega)).toNat:Int)=58:=by intro h;rw[zps,decide_eq_false_iff_not] at h3;exact h3 ⟨h5,h⟩
     have h7:=zwi s (s.size-1) (by omega) h6;have h8:keys (Cuts.parts s 58)=false:=by unfold keys;rw[h7];rfl
     rw[h8];rfl
    ·rw[if_neg h4];simp[h2]
   ·rw[if_neg h3]
    rw[Bool.not_eq_false] at h3;rw[zps,decide_eq_true_eq] at h3;obtain ⟨h5,h6⟩:=h3;have h7:=zv7 s (s.size-1) (by omega) h6;have h8:=zoz s
    have h9:1<zem s+1:=by rw[<-h8,h7,List.length_append];have:=(Cuts.zg6 (s.extract 0 (s.size-1)) 58).1;simp;omega
    rw[if_pos h9]
    have h10:keys (Cuts.parts s 58)=((Cuts.parts (s.extract 0 (s.size-1)) 58).all (fun p=>zca p.data.toList)&&decide (zem s<=4)):=by
     unfold keys;rw[h8,h7,List.getLast?_append,List.dropLast_concat];have:((ByteArray.empty).toList.isEmpty)=true:=by rw[ByteArray.toList_eq];rfl
     simp only[List.getLast?_singleton,Option.getD_some,Option.some_or,this,Bool.true_and]
     congr 1
     rw[Bool.eq_iff_iff,decide_eq_true_eq,decide_eq_true_eq];omega
    rw[h10];by_cases h11:4<zem s
    ·rw[if_pos h11,decide_eq_false (by omega),Bool.and_false];rfl
    ·rw[if_neg h11,decide_eq_true (by omega),Bool.and_true]
     split
     ·show ((zem s+1:Nat):Int)-1=zem s
      omega
     ·rfl
theorem zhx (s:ByteArray):sel s=decide (0<=zar s):=by
 have h:=(Cuts.zg6 s 58).1;unfold zar;cases hs:sel s with
 | true=>
  rw[if_pos rfl]
  split
  ·rfl
  ·rw[eq_comm,decide_eq_true_eq];omega
 | false=>rfl
end Tok
end Go.Proofs.YtlmhgeanknhcfaaGreatDoor
