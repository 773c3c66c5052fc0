/-
  ImplTokens ParAll
-/
import Derived.Test.YtlmhgeanknhcfaaGreatDoorB31
import Derived.Test.YtlmhgeanknhcfaaGreatDoorB28
set_option maxHeartbeats 4000000
set_option maxRecDepth 10000
namespace Go.Proofs.YtlmhgeanknhcfaaGreatDoor
namespace ImplTokens
open Go.RowKit
open Strs SpecTokens
theorem zmz (s:ByteArray) (w:World) (h4:4000<s.size):
  Calls Tryz.prog 71 #[.string s] w (SpecTokens.Read (Tok.tokens s) w):=by
 have HV:=zH (Tok.zpm s h4);have h4i:(4000:Int)<(s.size:Int):=by omega
 go_enter Tryz.func71,Tryz.ntmps71;go_wp2_with fail
 go_ret2
 rw[HV.out];exact ⟨rfl,zB _ _⟩
theorem zje (s:ByteArray) (w:World) (hM:Max w) (h4:¬4000<s.size):
  Calls Tryz.prog 71 #[.string s] w (SpecTokens.Read (Tok.tokens s) w):=by
 obtain ⟨i0,hi,hz0,hz1,hz2⟩:=info_parts ydb;have hsl:=Tok.zaj s;have HV:Hid (Tok.tokens s=Tok.from_ s 0 []):=Tok.znp s h4;have h4i:¬(4000:Int)<(s.size:Int):=by omega
 go_enter Tryz.func71,Tryz.ntmps71;go_wp2_with fail
 go_loopw [0,4] (fun x v wr=>∃ (p:Nat) (acc:_root_.List Tok.T),p<=s.size/\acc.length<=800/\x=.string (Tok.rest s p)/\Tok.tokens s=Tok.from_ s p acc /\
   wr.ownsRow w.heap.size 94 3 v acc.length (row acc)/\Below w.heap.size w wr) (fun x _ _=>ImplSkip.zvf x)
 case atStart=>exact ⟨0,[],Nat.zero_le _,by simp,by rw[Tok.zsy],HV.out,World.ownsRow_nil _ _ _ _,zB _ _⟩
 case round=>
  obtain ⟨p,acc,hpl,hacc,rfl,hgo,hown,hbw⟩:=hrel;have HGO:=zH hgo;clear hgo;obtain ⟨ra,rc,rfl⟩:=Kit.za5 hown;have HO:=zH hown;clear hown;have hbs:=hbw.size;have HM:=zH (hM.keep hbw);have hrz:=Tok.zfh s p;have KS:=zH (ImplSkip.z9t (Tok.rest s p) wr HM.out (by omega));have HF:=zH (Tok.z4n s acc ((Tok.rest s p).size+1) p hpl (by omega));rw[Tok.zc8] at KS
  have HLEN:Hid (ImplSkip.zvf (.string (Tok.rest s p))=s.size-p):=hrz;generalize Tok.skip ((Tok.rest s p).size+1) (s.data.toList.drop p)=r at *;cases r with
  | none=>
   have HN:Hid (Tok.tokens s=none):=HGO.out.trans HF.out;go_wp2_with fail
   refine KS.out.mono ?_;rintro e w1 ⟨rfl,hb1⟩;have HB1:=hbw.trans (hb1.mono hbs);go_wp2_with fail
   go_ret2
   rw[HN.out];exact ⟨rfl,HB1⟩
  | some m=>
   obtain ⟨q,hpq,hql,rfl,hfr,hnx⟩:=HF.out;have HNX:=zH hnx;clear hnx;have HG2:Hid (Tok.tokens s=Tok.from_ s q acc):=HGO.out.trans hfr;clear HGO hfr HF;have HR:Hid ((⟨(s.data.toList.drop q).toArray⟩:ByteArray)=Tok.rest s q):=Tok.zl7 (by rw[Tok.zc8]);unfold ImplSkip.Left at KS;simp only[HR.out] at KS;have hqz:=Tok.zfh s q;by_cases hlt:q<s.size
   ·have hlt':q<s.data.toList.length:=by rw[hsl];exact hlt
    have hp0:0<(Tok.rest s q).size:=by omega
    have hx:s.data.toList[q]'hlt'=(Tok.rest s q)[0]'hp0:=by
     have h1:0<(Tok.rest s q).data.toList.length:=by rw[Tok.zaj];exact hp0
     show _=(Tok.rest s q).data.toList[0]'h1
     simp only[Tok.zc8,_root_.List.getElem_drop,Nat.add_zero]
    have hne:((Tok.rest s q).toList==[])=false:=by
     rw[ByteArray.toList_eq,beq_eq_false_iff_ne];intro h;have h2:(Tok.rest s q).size=0:=by rw[<-Tok.zaj,h];rfl
     omega
    have HSH:=zH (Tok.z3x s q (s.data.toList[q]'hlt') hql);have KT:=fun w h=>zH (ImplRead.z2n (Tok.rest s q) w h (by omega) hp0)
    have HST:=fun t e=>zH (Tok.zg1 s q hlt' t e)
    obtain ⟨hn1,hn2⟩:=HNX.out hlt';have H1:=zH (Tok.z4d s q acc hlt' hn1 hn2);have H2:=fun t e=>zH (Tok.z1s s q acc hlt' hn1 hn2 t e)
    have H3:=fun t e=>zH (Tok.z4h s q acc hlt' hn1 hn2 t e)
    rw[hx] at HSH H1;simp only[hx] at H2 H3 HST
    have HRR:=fun e=>zH (show (Tok.rest s q).extract e (Tok.rest s q).size=Tok.rest s (q+e) from by rw[show (Tok.rest s q).extract e (Tok.rest s q).size=Tok.rest (Tok.rest s q) e from rfl,Tok.z5o])
    clear hn1 hn2 hx HNX HR;generalize Tok.next s q ((Tok.rest s q)[0]'hp0)=u at *;generalize Tok.next (Tok.rest s q) 0 ((Tok.rest s q)[0]'hp0)=r at *;generalize Tok.rest s q=y at *;cases r with
    | none=>
     have hu:u=none:=HSH.out;have HN:Hid (Tok.tokens s=none):=HG2.out.trans (H1.out hu);clear H1 H2 H3 HST HSH HG2;go_wp2_with fail
     refine KS.out.mono ?_;rintro e w1 ⟨rfl,hb1⟩;have HB1:=hbw.trans (hb1.mono hbs);have HM1:=zH (HM.out.keep hb1);go_wp2_with fail
     refine (KT _ HM1.out).out.mono ?_;rintro e w2 ⟨k,t,n,rfl,hb2⟩;have HB2:=HB1.trans (hb2.mono HB1.size);go_wp2_with fail
     go_ret2
     rw[HN.out];exact ⟨rfl,HB2.alloc HB2.size _⟩
    | some z=>
     obtain ⟨t,e0⟩:=z;have hu:u=some (t,q+e0):=HSH.out;obtain ⟨hpe,hes,hk⟩:=(HST t (q+e0)).out hu;have e00:((e0:Int)==0)=false:=by rw[beq_eq_false_iff_ne];omega
     have HE:=HRR e0;clear HRR;by_cases h8:(acc.length:Int)=800
     ·have t8:((acc.length:Int)==800)=true:=by rw[beq_iff_eq];exact h8
      have HN:Hid (Tok.tokens s=none):=HG2.out.trans ((H2 t (q+e0)).out hu (by omega));clear H1 H2 H3 HST HSH HG2 hk;go_wp2_with fail
      refine KS.out.mono ?_;rintro e w1 ⟨rfl,hb1⟩;have HB1:=hbw.trans (hb1.mono hbs);have HM1:=zH (HM.out.keep hb1);go_wp2_with fail
      refine (KT _ HM1.out).out.mono ?_;rintro e w2 ⟨rfl,hb2⟩;have HB2:=HB1.trans (hb2.mono HB1.size);go_wp2_with fail
      go_ret2
      rw[HN.out];exact ⟨rfl,HB2.alloc HB2.size _⟩
     ·have t8:((acc.length:Int)==800)=false:=by rw[beq_eq_false_iff_ne];exact h8
      have HG3:Hid (Tok.tokens s=Tok.from_ s (q+e0) (acc++[t])):=HG2.out.trans ((H3 t (q+e0)).out hu (by omega));clear H1 H2 H3 HST HSH HG2 hk;go_wp2_with fail
      refine KS.out.mono ?_;rintro e w1 ⟨rfl,hb1⟩;have HB1:=hbw.trans (hb1.mono hbs);have HM1:=zH (HM.out.keep hb1);have HO1:=zH (own_keep HO.out hb1);clear HO;go_wp2_with fail
      refine (KT _ HM1.out).out.mono ?_;rintro e w2 ⟨rfl,hb2⟩;have HB2:Hid (Below w.heap.size w w2):=HB1.trans (hb2.mono HB1.size);have hs2:w.heap.size<=w2.heap.size:=HB2.out.size;have HO2:=zH (own_keep HO1.out hb2);clear HO1 hb1 hb2 HB1 hbw;go_wp2_with (at_builtin;go_must (refine wpList_append_own _ rfl _ _ 54 rfl w.heap.size 94 i0 (.agg #[.int .i64 0,.string ByteArray.empty,.int .i64 0]) 3 32 Tryz.underlying54 hi hz0 hz1 hz2 rfl (by decide) _ _ _ rfl ((HO2.out.alloc _).alloc _) ⟨w2.heap.size+1,0,none⟩ 1 1 [.int .i64 t.kind,.string t.text,.int .i64 t.num] rfl rfl ?c1 ?c2 ?c3 ?c4 ?c5 ?_))
      case c1=>exact znl w2 _ _ _ _ _
      case c2=>exact zt8 _ _ _
      case c3=>unfold maxLen;omega
      case c4=>omega
      case c5=>simp;omega
      intro v' w3 hown' hgr _;have HOWN:=zH hown';have HGR:=zH hgr;clear hown' hgr;go_wp2_with fail
      go_roundw
      case rel=>
       refine ⟨q+e0,acc++[t],hes,by simp;omega,by first|rw[HE.out]|rw[<-hqz,HE.out],HG3.out,?_,?_⟩
       ·rw[zzg]
        simpa [cells] using HOWN.out
       ·exact zra (zL _) (HB2.out.alloc hs2 _) (HO2.out.alloc _) HGR.out
      case measure=>rw[HLEN.out];simp[ImplSkip.zvf];omega
   ·have hnil:((Tok.rest s q).toList==[])=true:=by
     rw[ByteArray.toList_eq,beq_iff_eq];exact _root_.List.eq_nil_of_length_eq_zero (by rw[Tok.zaj];omega)
    have HE:Hid (Tok.tokens s=some acc):=HG2.out.trans (Tok.z7t s q acc hlt);clear HNX HG2;go_wp2_with fail
    refine KS.out.mono ?_;rintro e w1 ⟨rfl,hb1⟩;have HB1:=hbw.trans (hb1.mono hbs);have HO1:=zH (own_keep HO.out hb1);go_wp2_with fail
    go_ret2
    rw[HE.out];exact ⟨_,rfl,HO1.out,HB1⟩
theorem zfu (s:ByteArray) (w:World) (hM:Max w):
  Calls Tryz.prog 71 #[.string s] w (SpecTokens.Read (Tok.tokens s) w):=by
 by_cases h:4000<s.size
 ·exact zmz s w h
 ·exact zje s w hM h
end ImplTokens
namespace ParI
open Go.RowKit
open Strs Tree Gram Placed
open Go.Proofs.YtlmhgeanknhcfaaGreatDoor.Parser
theorem zg9 (p:Addr) (x:Bool) (pv:Value) (older:List PanicEntry) (w:World) (hc:w.cell? p=some (.bool x)) (hz:w.frozen? p=false):
  CallsD Tryz.prog 72 #[.pointer (some p)] (.panicking ({ v:=.iface 9 pv,recovered:=false }::older)) w fun e u' w'=>e=.returned (.tuple #[])/\u'=.panicking ({ v:=.iface 9 pv,recovered:=true }::older)/\w'=w.setCell p (.bool false):=by
 refine callsD_of_wpS Tryz.func72 rfl fun c₀ cs hu=>?_
 apply wpS_seq;apply wpS_region;simp[wpOpsS,go_sem,recoverD,hu,Tryz.ntmps72,Exit.thenS];refine wpS_cond (t:=true) (by simp[Act.eval,Array.replicate]) ?_;simp only[if_true];apply wpS_region;simp[wpOpsS,go_sem,hc,hz,bodyPostS,results,Tryz.results72]
theorem zgu (p:Addr) (w:World):
  CallsD Tryz.prog 72 #[.pointer (some p)] .returning w fun e u' w'=>e=.returned (.tuple #[])/\u'=.returning/\w'=w:=by
 refine callsD_of_wpS Tryz.func72 rfl fun c₀ cs hu=>?_
 apply wpS_seq;apply wpS_region;simp[wpOpsS,go_sem,recoverD,hu,Tryz.ntmps72,Exit.thenS];refine wpS_cond (t:=false) (by simp[Act.eval,Array.replicate]) ?_;simp only[Bool.false_eq_true,if_false];refine wpS_of_wp (wp_skip ?_);cases c₀
 simp_all [bodyPostS,results,Tryz.results72]
structure OkC (B:Nat) (b:Bool) (w:World):Prop where
 size:B<w.heap.size
 z:w.cell? ⟨B,0,none⟩=some (.bool b)
 fz:w.frozen? ⟨B,0,none⟩=false
theorem OkC.same {B:Nat} {b:Bool} {w w':World} (h:OkC B b w) (hs:w.heap.size<=w'.heap.size) (hb:w'.heap[B]?=w.heap[B]?):OkC B b w':=
 ⟨Nat.lt_of_lt_of_le h.size hs,(World.cell?_of_block (a:=⟨B,0,none⟩) hb).trans h.z,(World.frozen?_of_block (a:=⟨B,0,none⟩) hb).trans h.fz⟩
theorem OkC.step {B:Nat} {b:Bool} {w w':World} (h:OkC B b w) (hb:Below w.heap.size w w'):OkC B b w':=h.same hb.size (hb.block B h.size)
theorem OkC.turn {P:Cst} {B:Nat} {b:Bool} {w w':World} (h:OkC B b w) (ht:za2 P w w') (hB:B≠P.pb):OkC B b w':=h.same ht.size (World.grownBy.block ht B h.size (by simpa using hB))
theorem zv6 (w:World) (b:Bool) (T:TypeId):OkC w.heap.size b (w.alloc (.cells #[.bool b] T)):=⟨by simp,by go_simp,by go_simp⟩
theorem zw4 {B:Nat} {b:Bool} {w:World} (h:OkC B b w) (b':Bool):OkC B b' (w.setCell ⟨B,0,none⟩ (.bool b')):=by obtain ⟨h1,h2,h3⟩:=h;refine ⟨by simpa using h1,?_,?_⟩<;>go_simp
theorem zhz {P:Cst} {B:Nat} {a b c:World} (h:Below B a b) (k:za2 P b c) (hp:B<=P.pb) (hs:B<=b.heap.size):Below B a c:=
 h.trans ⟨k.os,k.tape,k.output,k.size,fun i hi=>World.grownBy.block k i (by omega) (by simp;omega)⟩
theorem below_grown {a b:World} (h:Below a.heap.size a b) (row:Option Nat):a.grownBy b row:=⟨h.os,h.tape,h.output,h.size,fun i hi _=>h.block i hi⟩
theorem zrn {P:Cst} {s:ByteArray} (h:Tok.tokens s=some P.toks) (h1:P.toks.length<=P.cap) (h2:P.cap<=maxLen):yc0 P:=
 ⟨SpecParse.zwz h h1 h2,(Tok.zg8 s _ h).2.1,Tok.zxj s _ h⟩
end ParI
end Go.Proofs.YtlmhgeanknhcfaaGreatDoor
