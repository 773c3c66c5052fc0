/-
  SpecTokens TokFit TokFull
-/
import Derived.Test.YtlmhgeanknhcfaaGreatDoorB12
import Derived.DataShut
set_option maxHeartbeats 8000000
set_option maxRecDepth 10000
namespace Go.Proofs.YtlmhgeanknhcfaaGreatDoor
namespace SpecTokens
open Go.RowKit
open Strs SpecTok SpecName SpecRead2 SpecSel SpecStarts SpecSymbol SpecQuoted SpecNext
theorem ydb:(Tryz.prog.info? 94).map (fun i=>(i.zero,i.size,i.bytes))=some (some (.agg #[.int .i64 0,.string ByteArray.empty,.int .i64 0]),3,32):=by kernel_rfl
def cells (t:Tok.T):_root_.List Value:=[.int .i64 t.kind,.string t.text,.int .i64 t.num]
def row (ts:_root_.List Tok.T):_root_.List Value:=ts.flatMap cells
theorem zzg (ts:_root_.List Tok.T) (t:Tok.T):row (ts++[t])=row ts++cells t:=by simp[row]
def Read (r:Option (_root_.List Tok.T)) (w:World) (e:Ending) (w':World):Prop:=
 match r with
 | none=>e=.returned (.tuple #[.slice none 0 0,.bool false])/\Below w.heap.size w w'
 | some ts=>∃ v,e=.returned (.tuple #[v,.bool true])/\w'.ownsRow w.heap.size 94 3 v ts.length (row ts)/\Below w.heap.size w w'
theorem zw6 (w:World) (a b c:Value) (t:TypeId):∀ (j:Nat) (u:Value),[a,b,c][j]?=some u->(w.alloc (.cells #[a,b,c] t)).cell? ((⟨w.heap.size,0,none⟩:Addr).add j)=some u:=by
 intro j u hj
 match j,hj with
 | 0,hj=>simp at hj;subst hj;simp[Addr.add]
 | 1,hj=>simp at hj;subst hj;simp[Addr.add]
 | 2,hj=>simp at hj;subst hj;simp[Addr.add]
theorem znl (w:World) (o:Obj) (a b c:Value) (t:TypeId):∀ (j:Nat) (u:Value),[a,b,c][j]?=some u->((w.alloc o).alloc (.cells #[a,b,c] t)).cell? ((⟨w.heap.size+1,0,none⟩:Addr).add j)=some u:=by
 have h:=zw6 (w.alloc o) a b c t;have e:(w.alloc o).heap.size=w.heap.size+1:=by simp
 rw[e] at h;exact h
theorem zt8 (k:Int) (t:ByteArray) (n:Int):∀ u:Value,u∈[Value.int .i64 k,.string t,.int .i64 n]->u.oneCell'=true:=by intro u hu;simp at hu;rcases hu with rfl|rfl|rfl<;>rfl
theorem zra {w wr w':World} {base:Nat} {e:TypeId} {o:Obj} {v:Value} {n:Nat} {xs:_root_.List Value} (hb:base<=w.heap.size) (h:Below base w wr) (hown:wr.ownsRow base e 3 v n xs) (hg:(wr.alloc o).grownBy w' v.ownBlock):Below base w w':=by have h1:base<=wr.heap.size:=Nat.le_trans hb h.size;exact (h.alloc h1 o).grown hg (by simp;omega) (fun k hk=>(hown.lt k hk).1)
theorem zmz (s:ByteArray) (w:World) (hs:s.size<=1048576) (h4:4000<s.size):
  Calls Tryz.prog 26 #[.string s] w (Read (Tok.tokens s) w):=by
 have HV:=zH (Tok.zpm s h4);have hp:(0:Int)<(s.size:Int):=by omega
 have h4i:(4000:Int)<(s.size:Int):=by omega
 go_enter Tryz.func26,Tryz.ntmps26;go_wp2_with fail
 refine wp_loop_rounds 1 ?_;rw[rounds_succ];go_wp2_with fail
 go_ret2
 rw[HV.out];exact ⟨rfl,(zB _ _).alloc (zL _) _⟩
theorem z4t (c:UInt8) (n:Nat) (h:(c.toNat:Int)=(n:Nat)):c=UInt8.ofNat n:=by
 have:c.toNat=n:=by omega
 rw[<-this,UInt8.ofNat_toNat]
theorem zje (s:ByteArray) (w:World) (h4:¬4000<s.size):
  Calls Tryz.prog 26 #[.string s] w (Read (Tok.tokens s) w):=by
 obtain ⟨i0,hi,hz0,hz1,hz2⟩:=info_parts ydb;have HV:=zH (Tok.znp s h4);have h4i:¬(4000:Int)<(s.size:Int):=by omega
 have HLEN:Hid (s.data.toList.length=s.size):=zaj s;go_enter Tryz.func26,Tryz.ntmps26;go_wp2_with fail
 go_loopw [4,5] (fun v j wr=>∃ (f p:Nat) (acc:_root_.List Tok.T),p<=s.size/\s.size<f+p/\acc.length<=800/\j=.int .i64 p/\Tok.tokens s=Tok.toks s f p acc /\
   wr.ownsRow w.heap.size 94 3 v acc.length (row acc)/\Below w.heap.size w wr) (fun _ j _=>s.size-(intOf j).toNat)
 case atStart=>exact ⟨s.size+1,0,[],by omega,by omega,by simp,rfl,HV.out,World.ownsRow_lit w #[] 0 (zL _) (Nat.zero_le _) rfl,(zB _ _).alloc (zL _) _⟩
 case round=>
  obtain ⟨f,p,acc,hpl,hfp,hacc,rfl,hgo,hown,hbw⟩:=hrel;have HGO:=zH hgo;clear hgo;obtain ⟨f,rfl⟩:∃ g,f=g+1:=⟨f-1,by omega⟩
  obtain ⟨ra,rc,rfl⟩:=Kit.za5 hown;have HO:=zH hown;clear hown;have hbs:=hbw.size;by_cases hlt:p<s.size
  ·have hlt':p<s.data.toList.length:=by rw[HLEN.out];exact hlt
   have hx:s.data.toList[p]'hlt'=s[p]'hlt:=rfl;by_cases e32:((s[p]'hlt).toNat:Int)=32
   ·have t32:(((s[p]'hlt).toNat:Int)==32)=true:=by simpa using e32
    have HG2:Hid (Tok.tokens s=Tok.toks s f (p+1) acc):=HGO.out.trans (Tok.zll s f p acc hlt' (by rw[hx];exact .inl (z4t _ 32 e32)))
    clear hx e32;go_wp2_with fail
    go_roundw
    case rel=>exact ⟨f,p+1,acc,by omega,by omega,hacc,by go_num,HG2.out,HO.out,hbw⟩
    case measure=>simp[intOf];omega
   ·have t32:(((s[p]'hlt).toNat:Int)==32)=false:=by simpa using e32
    by_cases e10:((s[p]'hlt).toNat:Int)=10
    ·have t10:(((s[p]'hlt).toNat:Int)==10)=true:=by simpa using e10
     have HG2:Hid (Tok.tokens s=Tok.toks s f (p+1) acc):=HGO.out.trans (Tok.zll s f p acc hlt' (by rw[hx];exact .inr (.inl (z4t _ 10 e10))))
     clear hx e10;go_wp2_with fail
     go_roundw
     case rel=>exact ⟨f,p+1,acc,by omega,by omega,hacc,by go_num,HG2.out,HO.out,hbw⟩
     case measure=>simp[intOf];omega
    ·have t10:(((s[p]'hlt).toNat:Int)==10)=false:=by simpa using e10
     by_cases e9:((s[p]'hlt).toNat:Int)=9
     ·have t9:(((s[p]'hlt).toNat:Int)==9)=true:=by simpa using e9
      have HG2:Hid (Tok.tokens s=Tok.toks s f (p+1) acc):=HGO.out.trans (Tok.zll s f p acc hlt' (by rw[hx];exact .inr (.inr (z4t _ 9 e9))))
      clear hx e9;go_wp2_with fail
      go_roundw
      case rel=>exact ⟨f,p+1,acc,by omega,by omega,hacc,by go_num,HG2.out,HO.out,hbw⟩
      case measure=>simp[intOf];omega
     ·have t9:(((s[p]'hlt).toNat:Int)==9)=false:=by simpa using e9
      have hws:¬(s.data.toList[p]'hlt'=32\/s.data.toList[p]'hlt'=10\/s.data.toList[p]'hlt'=9):=by
       rw[hx];intro h;rcases h with h|h|h
       ·exact e32 (by rw[h];rfl)
       ·exact e10 (by rw[h];rfl)
       ·exact e9 (by rw[h];rfl)
      clear e32 e10 e9;by_cases e34:((s[p]'hlt).toNat:Int)=34
      ·have t34:(((s[p]'hlt).toNat:Int)==34)=true:=by simpa using e34
       have hc34:s.data.toList[p]'hlt'=34:=by rw[hx];exact z4t _ 34 e34
       have HNO:=zH (Tok.zuy s f p acc hlt' hc34);have HCO:=fun q=>zH (Tok.znx s f p q acc hlt' hc34)
       clear hc34 hx e34 hws;obtain ⟨wo,rfl⟩:∃ wo:World,wo=wr:=⟨_,rfl⟩;go_wp2_with fail
       go_loop [5] (fun j=>∃ i:Nat,p+1<=i/\i<=s.size/\j=.int .i64 i/\Tok.zlp s.data.toList (p+1)=Tok.zlp s.data.toList i) (fun j=>s.size-(intOf j).toNat)
       case atStart=>exact ⟨p+1,zL _,by omega,by go_num,rfl⟩
       case round=>
        obtain ⟨i,hpi,hil,rfl,hq⟩:=hrel;have HQ:=zH hq;clear hq;by_cases hli:i<s.size
        ·have hli':i<s.data.toList.length:=by rw[HLEN.out];exact hli
         have hxi:s.data.toList[i]'hli'=s[i]'hli:=rfl;by_cases e:((s[i]'hli).toNat:Int)=34
         ·have ti:(((s[i]'hli).toNat:Int) != 34)=false:=by simpa using e
          have hie:((i:Int)==(s.size:Int))=false:=by rw[beq_eq_false_iff_ne];omega
          have HQ2:Hid (Tok.zlp s.data.toList (p+1)=i):=HQ.out.trans (Tok.zti _ i (fun _=>by rw[hxi];exact z4t _ 34 e))
          have HG2:Hid (Tok.tokens s=Tok.toks s f (i+1) acc):=HGO.out.trans ((HCO i).out HQ2.out hli');clear hxi e;go_wp2_with fail
          go_roundw
          case rel=>exact ⟨f,i+1,acc,by omega,by omega,hacc,by go_num,HG2.out,HO.out,hbw⟩
          case measure=>simp[intOf];omega
         ·have ti:(((s[i]'hli).toNat:Int) != 34)=true:=by simpa using e
          have HQ2:Hid (Tok.zlp s.data.toList (p+1)=Tok.zlp s.data.toList (i+1)):=HQ.out.trans (Tok.yau _ i hli' (by rw[hxi];intro h;exact e (by rw[h];rfl)))
          clear hxi e;go_wp2_with fail
          go_round
          case rel=>exact ⟨i+1,by omega,by omega,by go_num,HQ2.out⟩
          case measure=>simp[intOf];omega
        ·have hie:((i:Int)==(s.size:Int))=true:=by rw[beq_iff_eq];omega
         have HQ2:Hid (Tok.zlp s.data.toList (p+1)=i):=HQ.out.trans (Tok.zti _ i (fun h=>by rw[HLEN.out] at h;omega))
         have HN:Hid (Tok.tokens s=none):=HGO.out.trans (HNO.out (by rw[HQ2.out,HLEN.out];exact hli));go_wp2_with fail
         go_ret2
         rw[HN.out];exact ⟨rfl,hbw⟩
      ·have t34:(((s[p]'hlt).toNat:Int)==34)=false:=by simpa using e34
       have h34:¬s.data.toList[p]'hlt'=34:=by rw[hx];intro h;exact e34 (by rw[h];rfl)
       have KN:=zH (zcp s p p wr rfl hlt (by omega));have H1:=zH (Tok.ztu s f p acc hlt' hws h34);have H2:=fun t e=>zH (Tok.zs3 s f p acc hlt' hws h34 t e)
       have H3:=fun t e=>zH (Tok.ztd s f p acc hlt' hws h34 t e)
       have HS:=fun t e=>zH (Tok.zg1 s p hlt' t e)
       rw[hx] at H1;simp only[hx] at H2 H3 HS;clear hws h34 hx e34;generalize Tok.next s p (s[p]'hlt)=r at *
       match r with
       | none=>
        have HN:Hid (Tok.tokens s=none):=HGO.out.trans (H1.out rfl);clear H1 H2 H3 HS;go_wp2_with fail
        refine KN.out.mono ?_;rintro e' w5 ⟨rfl,hb5⟩;have HB5:Hid (Below w.heap.size w w5):=hbw.trans (hb5.mono hbs);have hs5:w.heap.size<=w5.heap.size:=HB5.out.size;clear hb5 hbw HO;simp only[tv];go_wp2_with fail
        go_ret2
        rw[HN.out];exact ⟨rfl,HB5.out.alloc hs5 _⟩
       | some (t,e)=>
        obtain ⟨hpe,hes,hk⟩:=(HS t e).out rfl;have hkf:(t.kind==0)=false:=by rw[beq_eq_false_iff_ne];exact hk
        by_cases h8:(800:Int)<=(acc.length:Int)
        ·have HN:Hid (Tok.tokens s=none):=HGO.out.trans ((H2 t e).out rfl (by omega))
         clear H1 H2 H3 HS hk;go_wp2_with fail
         refine KN.out.mono ?_;rintro e' w5 ⟨rfl,hb5⟩;have HB5:Hid (Below w.heap.size w w5):=hbw.trans (hb5.mono hbs);have hs5:w.heap.size<=w5.heap.size:=HB5.out.size;clear hb5 hbw HO;simp only[tv];go_wp2_with fail
         go_ret2
         rw[HN.out];exact ⟨rfl,HB5.out.alloc hs5 _⟩
        ·have HG2:Hid (Tok.tokens s=Tok.toks s f e (acc++[t])):=HGO.out.trans ((H3 t e).out rfl (by omega))
         clear H1 H2 H3 HS hk;go_wp2_with fail
         refine KN.out.mono ?_;rintro e' w5 ⟨rfl,hb5⟩;have HB5:Hid (Below w.heap.size w w5):=hbw.trans (hb5.mono hbs);have hs5:w.heap.size<=w5.heap.size:=HB5.out.size;have HO5:=zH (own_keep HO.out hb5);clear hb5 hbw HO;simp only[tv]
         set_option maxRecDepth 10000 in
         go_wp2_with (at_builtin;go_must (refine wpList_append_own _ rfl _ _ 54 rfl w.heap.size 94 i0 (.agg #[.int .i64 0,.string ByteArray.empty,.int .i64 0]) 3 32 Tryz.underlying54 hi hz0 hz1 hz2 rfl (by decide) _ _ _ rfl ((HO5.out.alloc _).alloc _) ⟨w5.heap.size+1,0,none⟩ 1 1 [.int .i64 t.kind,.string t.text,.int .i64 t.num] rfl rfl ?c1 ?c2 ?c3 ?c4 ?c5 ?_))
         case c1=>exact znl w5 _ _ _ _ _
         case c2=>exact zt8 _ _ _
         case c3=>unfold maxLen;omega
         case c4=>omega
         case c5=>simp;omega
         intro v' w1 hown' hgr _;have HOWN:=zH hown';have HGR:=zH hgr;clear hown' hgr;go_wp2_with fail
         go_roundw
         case rel=>
          refine ⟨f,e,acc++[t],hes,by omega,by simp;omega,rfl,HG2.out,?_,?_⟩
          ·rw[zzg]
           simpa [cells] using HOWN.out
          ·exact zra (zL _) (HB5.out.alloc hs5 _) (HO5.out.alloc _) HGR.out
         case measure=>simp[intOf];omega
  ·have HE:Hid (Tok.tokens s=some acc):=HGO.out.trans (Tok.zx7 s f p acc (by rw[HLEN.out];exact hlt))
   go_wp2_with fail
   go_ret2
   rw[HE.out];exact ⟨_,rfl,HO.out,hbw⟩
end SpecTokens
namespace Tok
structure zix (t:T):Prop where
 kind:1<=t.kind/\t.kind<=8
 num:0<=t.num/\t.num<=1000000000000
 two:t.kind=2->0<t.text.size
 zero:t.kind≠3->t.num=0
theorem zix.seven {t:T} (h:zix t) (hk:t.kind=7):t.num=0:=h.zero (by rw[hk];decide)
theorem zjj (k:Int) (x:ByteArray) (n:Int) (h1:1<=k/\k<=8) (h2:0<=n/\n<=1000000000000) (h3:k=2->0<x.size) (h4:k≠3->n=0):zix ⟨k,x,n⟩:=⟨h1,h2,h3,h4⟩
theorem ybb (n:Nat):∀ l:List UInt8,l.length=n->zsx l+23<=23*10 ^ n:=by
 induction n with
 | zero=>intro l h;rw[List.eq_nil_of_length_eq_zero h];decide
 | succ n ih=>
  intro l h;have hne:l≠[]:=by intro e;subst e;cases h
  rw[<-List.dropLast_concat_getLast hne,zl8];have h1:=ih l.dropLast (by simp;omega);have h2:=(l.getLast hne).toNat_lt;rw[Nat.pow_succ];omega
theorem z5c (l:List UInt8) (h:l.length<=9):zsx l<=1000000000000:=by have h1:=ybb _ l rfl;have h2:10 ^ l.length<=10 ^ 9:=Nat.pow_le_pow_right (by omega) h;omega
theorem ext_size (s:ByteArray) (a b:Nat):(s.extract a b).size<=b-a:=by rw[ByteArray.size_extract];omega
theorem ya6 (l:List UInt8) (f:Nat):∀ i out o e,quo l f i out=some (o,e)->o.length+i<=out.length+e:=by
 induction f with
 | zero=>intro i out o e h;cases h
 | succ f ih=>
  intro i out o e h;rw[quo] at h
  split at h
  ·cases h
  ·split at h
   ·split at h
    ·have:=ih _ _ _ _ h
     rw[List.length_append] at this;simp at this;omega
    ·simp only[Option.some.injEq,Prod.mk.injEq] at h
     obtain ⟨rfl,rfl⟩:=h;omega
   ·split at h
    ·have:=ih _ _ _ _ h
     rw[List.length_append] at this;simp at this;omega
    ·cases h
theorem z14 (s:ByteArray) (p:Nat) (t:T) (e:Nat) (hn:nameAt s p=some (t,e)):zix t/\t.text.size<=e-p:=by
 unfold nameAt at hn;simp only at hn;have hx:=ext_size s p (run s.data.toList p)
 split at hn
 ·cases hn
 ·split at hn
  ·simp only[Option.some.injEq,Prod.mk.injEq] at hn
   obtain ⟨rfl,rfl⟩:=hn;have hr:p<=run s.data.toList p:=by unfold run;omega
   refine ⟨zjj _ _ _ (by decide) (by decide) (fun _=>?_) (fun _=>rfl),?_⟩
   ·show 0<(_++_:ByteArray).size
    rw[ByteArray.size_append];show 0<_+1
    omega
   ·show (_++_:ByteArray).size<=_
    rw[ByteArray.size_append];show _+1<=_
    omega
  ·simp only[Option.some.injEq,Prod.mk.injEq] at hn
   obtain ⟨rfl,rfl⟩:=hn;refine ⟨zjj _ _ _ ?_ (by decide) (fun h=>?_) (fun _=>rfl),hx⟩
   ·show 1<=(if _ then (8:Int) else 1)/\(if _ then (8:Int) else 1)<=8
    split<;>decide
   ·exfalso
    have h':(if has words (s.extract p (run s.data.toList p))=true then (8:Int) else 1)=2:=h
    split at h'
    ·exact absurd h' (by decide)
    ·exact absurd h' (by decide)
theorem zwf (l:List UInt8) (p:Nat) (t:T) (e:Nat) (hn:number l p=some (t,e)):zix t/\t.text.size<=e-p:=by
 unfold number at hn
 split at hn
 ·cases hn
 ·rename_i h9
  split at hn
  ·cases hn
  ·simp only[Option.some.injEq,Prod.mk.injEq] at hn
   obtain ⟨rfl,rfl⟩:=hn;have hd:=z5c ((l.drop p).take (zk8 l p-p)) (by rw[List.length_take];omega);exact ⟨zjj _ _ _ (by decide) ⟨Int.natCast_nonneg _,by omega⟩ (fun h=>absurd h (by decide)) (fun h=>absurd rfl h),Nat.zero_le _⟩
theorem zxi (l:List UInt8) (p:Nat) (t:T) (e:Nat) (hn:quoted l p=some (t,e)):zix t/\t.text.size<=e-p:=by
 unfold quoted at hn
 split at hn
 ·rename_i out e' hq
  split at hn
  ·simp only[Option.some.injEq,Prod.mk.injEq] at hn
   obtain ⟨rfl,rfl⟩:=hn;have:=ya6 _ _ _ _ _ _ hq;simp at this;refine ⟨zjj _ _ _ (by decide) (by decide) (fun h=>absurd h (by decide)) (fun _=>rfl),?_⟩
   show out.toArray.size<=_
   simp;omega
  ·cases hn
 ·cases hn
theorem zr8 (s:ByteArray) (p:Nat) (t:T) (e:Nat) (hn:zax s p=some (t,e)):zix t/\t.text.size<=e-p:=by
 unfold zax at hn;simp only at hn
 split at hn
 ·simp only[Option.some.injEq,Prod.mk.injEq] at hn
  obtain ⟨rfl,rfl⟩:=hn;exact ⟨zjj _ _ _ (by decide) (by decide) (fun h=>absurd h (by decide)) (fun _=>rfl),by simp only;omega⟩
 ·split at hn
  ·cases hn
  ·split at hn
   ·simp only[Option.some.injEq,Prod.mk.injEq] at hn
    obtain ⟨rfl,rfl⟩:=hn;exact ⟨zjj _ _ _ (by decide) (by decide) (fun h=>absurd h (by decide)) (fun _=>rfl),ext_size _ _ _⟩
   ·cases hn
theorem z3g (s:ByteArray) (p:Nat) (c:UInt8) (t:T) (e:Nat) (hn:next s p c=some (t,e)):zix t/\t.text.size<=e-p:=by
 unfold next at hn
 split at hn
 ·exact z14 _ _ _ _ hn
 split at hn
 ·exact zwf _ _ _ _ hn
 split at hn
 ·exact zxi _ _ _ _ hn
 split at hn
 ·obtain ⟨h1,h2⟩:=zr8 _ _ _ _ hn
  exact ⟨h1,by omega⟩
 split at hn
 ·simp only[Option.some.injEq,Prod.mk.injEq] at hn
  obtain ⟨rfl,rfl⟩:=hn;exact ⟨zjj _ _ _ (by decide) (by decide) (fun h=>absurd h (by decide)) (fun _=>rfl),by simp only;omega⟩
 split at hn
 ·simp only[Option.some.injEq,Prod.mk.injEq] at hn
  obtain ⟨rfl,rfl⟩:=hn;exact ⟨zjj _ _ _ (by decide) (by decide) (fun h=>absurd h (by decide)) (fun _=>rfl),by simp only;omega⟩
 ·cases hn
def texts:List T->Nat
 | []=>0
 | t::ts=>t.text.size+texts ts
theorem zs1 (a b:List T):texts (a++b)=texts a+texts b:=by
 induction a with
 | nil=>simp[texts]
 | cons t ts ih=>simp[texts,ih];omega
theorem z11 {ts:List T} {t:T} (h:t∈ts):t.text.size<=texts ts:=by
 induction ts with
 | nil=>cases h
 | cons x xs ih=>
  rw[texts];rcases List.mem_cons.1 h with rfl|h
  ·omega
  ·have:=ih h;omega
theorem z6d (s:ByteArray) (f:Nat):∀ p acc r,acc.length<=800->(∀ t,t∈acc->zix t)->p<=s.size->toks s f p acc=some r->r.length<=800/\(∀ t,t∈r->zix t)/\texts r+p<=texts acc+s.size:=by
 induction f with
 | zero=>intro p acc r _ _ _ h;cases h
 | succ f ih=>
  intro p acc r ha hf hp h;rw[toks] at h
  split at h
  ·simp only[Option.some.injEq] at h
   subst h;exact ⟨ha,hf,by omega⟩
  ·rename_i c hc
   have hlt:p<s.data.toList.length:=(List.getElem?_eq_some_iff.1 hc).1;have hce:s.data.toList[p]=c:=(List.getElem?_eq_some_iff.1 hc).2;have hls:=zaj s
   split at h
   ·have:=ih _ _ _ ha hf (by omega) h
    exact ⟨this.1,this.2.1,by omega⟩
   ·split at h
    ·split at h
     ·rename_i hq
      have hge:p+1<=zlp s.data.toList (p+1):=by unfold zlp;omega
      have:=ih _ _ _ ha hf (by omega) h;exact ⟨this.1,this.2.1,by omega⟩
     ·cases h
    ·split at h
     ·cases h
     ·rename_i t e hn
      split at h
      ·cases h
      ·rename_i h8
       have hs:=zg1 s p hlt t e (by rw[hce];exact hn);have hfn:=z3g s p c t e hn
       have:=ih _ _ _ (by simp;omega) (fun x hx=>by
        rcases List.mem_append.1 hx with hx|hx
        ·exact hf x hx
        ·rw[List.mem_singleton.1 hx];exact hfn.1) hs.2.1 h
       refine ⟨this.1,this.2.1,?_⟩;have h3:=this.2.2;rw[zs1] at h3;simp only[texts] at h3;omega
theorem zg8 (s:ByteArray) (ts:List T) (h:tokens s=some ts):ts.length<=800/\(∀ t,t∈ts->zix t)/\texts ts<=4000:=by
 unfold tokens at h
 split at h
 ·cases h
 ·rename_i h4
  have:=z6d s _ _ [] ts (Nat.zero_le _) (fun _ h=>nomatch h) (Nat.zero_le _) h
  exact ⟨this.1,this.2.1,by have:=this.2.2;simp only[texts] at this;omega⟩
theorem zix.wf {t:T} (h:zix t):(Lit.int .i64 t.kind).wf=true/\(Lit.int .i64 t.num).wf=true:=by
 have h1:=h.kind;have h2:=h.num;have e1:IntKind.min .i64 = -9223372036854775808:=by decide
 have e2:IntKind.max .i64=9223372036854775807:=by decide
 constructor
 ·rw[Lit.wf_int_iff,e1,e2];omega
 ·rw[Lit.wf_int_iff,e1,e2];omega
end Tok
namespace Tok
theorem zuq (l:List UInt8) (p:Nat) (t:T) (e:Nat) (hn:number l p=some (t,e)):t.kind=3:=by
 unfold number at hn
 split at hn
 ·cases hn
 ·split at hn
  ·cases hn
  ·simp only[Option.some.injEq,Prod.mk.injEq] at hn
   obtain ⟨rfl,rfl⟩:=hn;rfl
theorem zvv (l:List UInt8) (p:Nat) (t:T) (e:Nat) (hn:quoted l p=some (t,e)):t.kind=4:=by
 unfold quoted at hn
 split at hn
 ·split at hn
  ·simp only[Option.some.injEq,Prod.mk.injEq] at hn
   obtain ⟨rfl,rfl⟩:=hn;rfl
  ·cases hn
 ·cases hn
theorem zsh (s:ByteArray) (p:Nat) (t:T) (e:Nat) (hn:zax s p=some (t,e)):t.kind=5:=by
 unfold zax at hn;simp only at hn
 split at hn
 ·simp only[Option.some.injEq,Prod.mk.injEq] at hn
  obtain ⟨rfl,rfl⟩:=hn;rfl
 ·split at hn
  ·cases hn
  ·split at hn
   ·simp only[Option.some.injEq,Prod.mk.injEq] at hn
    obtain ⟨rfl,rfl⟩:=hn;rfl
   ·cases hn
theorem z1k (s:ByteArray) (p:Nat) (hp:p<s.data.toList.length) (t:T) (e:Nat) (hn:next s p s.data.toList[p]=some (t,e)) (hk:t.kind=1\/t.kind=6):0<t.text.size:=by
 have hs:=zg1 s p hp t e hn;unfold next at hn
 split at hn
 ·unfold nameAt at hn
  simp only at hn
  split at hn
  ·cases hn
  ·split at hn
   ·simp only[Option.some.injEq,Prod.mk.injEq] at hn
    obtain ⟨rfl,rfl⟩:=hn;exact absurd hk (by simp)
   ·simp only[Option.some.injEq,Prod.mk.injEq] at hn
    obtain ⟨rfl,rfl⟩:=hn;show 0<(s.extract p _).size
    rw[ByteArray.size_extract];omega
 split at hn
 ·have:=zuq _ _ _ _ hn;omega
 split at hn
 ·have:=zvv _ _ _ _ hn;omega
 split at hn
 ·have:=zsh _ _ _ _ hn;omega
 split at hn
 ·rename_i hne
  simp only[Option.some.injEq,Prod.mk.injEq] at hn;obtain ⟨rfl,rfl⟩:=hn;show 0<(starts s p zad).size
  have h1:=hs.1;omega
 split at hn
 ·simp only[Option.some.injEq,Prod.mk.injEq] at hn
  obtain ⟨rfl,rfl⟩:=hn;exact absurd hk (by simp)
 ·cases hn
theorem zth (s:ByteArray) (f:Nat):∀ p acc r,(∀ t,t∈acc->t.kind=1\/t.kind=6->0<t.text.size)->toks s f p acc=some r->∀ t,t∈r->t.kind=1\/t.kind=6->0<t.text.size:=by
 induction f with
 | zero=>intro p acc r _ h;cases h
 | succ f ih=>
  intro p acc r hf h;rw[toks] at h
  split at h
  ·simp only[Option.some.injEq] at h
   subst h;exact hf
  ·rename_i c hc
   have hlt:p<s.data.toList.length:=(List.getElem?_eq_some_iff.1 hc).1;have hce:s.data.toList[p]=c:=(List.getElem?_eq_some_iff.1 hc).2
   split at h
   ·exact ih _ _ _ hf h
   ·split at h
    ·split at h
     ·exact ih _ _ _ hf h
     ·cases h
    ·split at h
     ·cases h
     ·rename_i t e hn
      split at h
      ·cases h
      ·have hfn:=z1k s p hlt t e (by rw[hce];exact hn)
       refine ih _ _ _ (fun x hx=>?_) h
       rcases List.mem_append.1 hx with hx|hx
       ·exact hf x hx
       ·rw[List.mem_singleton.1 hx];exact hfn
theorem zxj (s:ByteArray) (ts:List T) (h:tokens s=some ts):∀ t,t∈ts->t.kind=1\/t.kind=6->0<t.text.size:=by
 unfold tokens at h
 split at h
 ·cases h
 ·exact zth s _ _ [] ts (fun _ h=>nomatch h) h
end Tok
end Go.Proofs.YtlmhgeanknhcfaaGreatDoor
