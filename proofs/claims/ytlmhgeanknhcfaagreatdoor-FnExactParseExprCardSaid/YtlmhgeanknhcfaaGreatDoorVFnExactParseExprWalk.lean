/-
  FnExactParseExprWalk
-/
import Derived.Test.YtlmhgeanknhcfaaGreatDoorB16
import Derived.Test.YtlmhgeanknhcfaaGreatDoorVMarkTop
import Derived.Test.YtlmhgeanknhcfaaGreatDoorVImplParse
import Derived.Test.YtlmhgeanknhcfaaGreatDoorB15
import Derived.Test.YtlmhgeanknhcfaaGreatDoorVTreeEq
import Derived.OpenShut
import Derived.Test.YtlmhgeanknhcfaaGreatDoorVXtParseExpr
namespace Go.Proofs.YtlmhgeanknhcfaaGreatDoor.fnExactParseExprW
set_option maxHeartbeats 8000000
set_option maxRecDepth 10000
open Go.RowKit
open Strs Tree Placed
open Go.Proofs.YtlmhgeanknhcfaaGreatDoor.Parser
theorem zue:weight SpecParse.zww=0:=by rfl
theorem zu7 (s:ByteArray):weight ((SpecParse.answer s).getD SpecParse.zww)<=4800:=by
 cases ha:SpecParse.answer s with
 | none=>
  show weight SpecParse.zww<=_
  rw[zue];omega
 | some e=>
  unfold SpecParse.answer at ha
  split at ha
  ·cases ha
  ·rename_i e' he
   split at ha
   ·cases ha
    exact Gram.zjk he
   ·cases ha
theorem walk (s:ByteArray) (hm:s.size<=maxLen) (w:World) (hM:Max w):
  Calls Tryz.prog 3 #[.string s] w fun e w'=>e=.returned (.bool true)/\Below w.heap.size w w':=by
 unfold maxLen at hm;by_cases hbig:(1048576:Int)<(s.size:Int)
 ·go_enter Tryz.func3,Tryz.ntmps3
  go_wp2_with fail
  go_ret;exact ⟨rfl,zB _ _⟩
 have hs:s.size<=1048576:=by omega
 have HS:=zH (SpecParse.zpk s w hs);have HI:=zH (fun w1 h=>ParI.zpk s w1 h)
 have hwt:=zu7 s;unfold SpecParse.ztg at HS;unfold ParI.z6f at HI;generalize (SpecParse.answer s).getD SpecParse.zww=e0 at *;generalize (SpecParse.answer s).isSome=ok at *;go_enter Tryz.func3,Tryz.ntmps3;go_wp2_with fail
 refine HS.out.mono ?_;rintro e w1 ⟨v0,rfl,hr0,hb1⟩;have HR0:=hr0;obtain ⟨v0n,v0k,rfl,hn0⟩:=hr0;obtain ⟨na,nl,nc,ka,kl,kc,rfl,rfl⟩:=zcw hn0;replace HR0:=zH HR0;generalize e0.kind=ek at *;generalize e0.text=et at *;generalize e0.num=en at *;obtain ⟨w1b,hw1⟩:∃ w1b,w1b=w1.alloc (.cells #[.int .i64 ek,.string et,.int .i64 en,.slice na nl nc,.slice ka kl kc] 25):=⟨_,rfl⟩;have hba:Below w1.heap.size w1 w1b:=by rw[hw1];exact (zB _ _).alloc (zL _) _
 have hf:=zcq w1 (.int .i64 ek) (.string et) (.int .i64 en) (.slice na nl nc) (.slice ka kl kc) 25;rw[<-hw1] at hf;have HF1:=zH hf;have HR1:=zH (HR0.out.below hba);have hb0:=hb1.trans (hba.mono hb1.size);have M1:=zH (hM.keep hb0);have HB1:=zH hb0;have HW1:=zH hw1;have HB3:Hid (w1b.heap.size=w1.heap.size+1):=zH (by rw[hw1];simp);clear hn0 hb1 hba hf hb0 hw1 HS HR0
 go_wp2_with fail
 rw[<-HW1.out];refine (HI.out w1b M1.out).mono ?_;rintro e w2 ⟨t,rfl,hte,ho,hb2⟩;obtain ⟨ua1,uc1,ub1,ud1,hf1,hf2⟩:=ParI.zbm ho.good;obtain ⟨uk1,ut1,un1,uns1,uvn,uvk,uks1⟩:=t;simp only[T.vn,T.vk,T.names,T.kids] at hf1 hf2;subst hf1 hf2;unfold agg;simp only[T.kind,T.text,T.num,T.vn,T.vk];obtain ⟨w2b,hw2⟩:∃ w2b,w2b=w2.alloc (.cells #[.int .i64 uk1,.string ut1,.int .i64 un1,.slice ua1 uns1.length uc1,.slice ub1 uks1.length ud1] 25):=⟨_,rfl⟩
 have hba:Below w2.heap.size w2 w2b:=by rw[hw2];exact (zB _ _).alloc (zL _) _
 have hf:=zcq w2 (.int .i64 uk1) (.string ut1) (.int .i64 un1) (.slice ua1 uns1.length uc1) (.slice ub1 uks1.length ud1) 25;rw[<-hw2] at hf;have HG1:=zH hf;have hb3:=hb2.trans (hba.mono hb2.size);have HB2:=zH hb3;have HF2:=zH (HF1.out.step hb3);have HR2:=zH (HR1.out.below hb3);have ho2:=ho.below hba;have HO2:=zH ho2;have HLT:Hid (∀ b,b∈foot (T.mk uk1 ut1 un1 uns1 (.slice ua1 uns1.length uc1) (.slice ub1 uks1.length ud1) uks1)->b<w2.heap.size):=zH (fun b hb=>ho.lt b hb)
 have hrt:=ho2.reads;rw[hte] at hrt;have HRT:=zH hrt;have HTE:=zH hte
 have hcnt:zgb (T.mk uk1 ut1 un1 uns1 (.slice ua1 uns1.length uc1) (.slice ub1 uks1.length ud1) uks1)<=14400:=by have h1:=zxo (T.mk uk1 ut1 un1 uns1 (.slice ua1 uns1.length uc1) (.slice ub1 uks1.length ud1) uks1);rw[hte] at h1;omega
 have HW2:=zH hw2;have HS2:Hid (w1b.heap.size<=w2.heap.size):=zH hb2.size;obtain ⟨-,f0,f1,f2,f3,f4,-⟩:=HF2.out;obtain ⟨-,g0,g1,g2,g3,g4,-⟩:=HG1.out;clear ho hb2 hba hf hb3 ho2 hrt hte hw2 HW1
 go_upto_region 5 with fail
 rw[<-HW2.out];generalize hB3:w1.heap.size=B3 at *;generalize hB5:w2.heap.size=B5 at *;clear HW2 hB3;go_wp2_with fail
 refine (TreeEq.same HRT.out HR2.out).mono ?_;rintro e w3 ⟨rfl,hb3⟩;have HO3:=zH (HO2.out.below hb3);have HF3:=zH (HF2.out.step hb3);have HG3:=zH (HG1.out.step hb3);have HR3:=zH (HR2.out.below hb3);have HB23:=zH (HB2.out.trans (hb3.mono HB2.out.size));have hKM:=z8o (k:=1) HO3.out (by omega) (by omega);unfold agg at hKM;simp only[T.kind,T.text,T.num,T.vn,T.vk] at hKM;rw[show ((1:Nat):Int)=1 from rfl] at hKM
 generalize hmm:1+zgb (T.mk uk1 ut1 un1 uns1 (.slice ua1 uns1.length uc1) (.slice ub1 uks1.length ud1) uks1)=m at *;have HM:=zH hmm;clear hmm;have KM:=zH hKM;have hmb:m<=14401:=by have:=HM.out;omega
 obtain ⟨-,p0,p1,p2,p3,p4,-⟩:=HG3.out;clear hb3 hKM f0 f1 f2 f3 f4 g0 g1 g2 g3 g4 HF2 HG1 HR2 HB2 HO2 HRT;go_wp2_with fail
 refine KM.out.mono ?_;rintro e w4 ⟨rfl,ho4,hx4⟩;have hb5l:B5<w3.heap.size:=HG3.out.size;have hb3l:B3<w3.heap.size:=HF3.out.size;have HG4:=zH (HG3.out.same hx4.size (hx4.block B5 hb5l (fun e=>by have:=HLT.out _ e;omega)))
 have HF4:=zH (HF3.out.same hx4.size (hx4.block B3 hb3l (fun e=>by have h1:=HO3.out.lo _ e;have h2:=HB3.out;omega)))
 have hbl:=hx4.low (B:=w1b.heap.size) HB23.out.size HO3.out.lo;have HB4:=zH (HB23.out.trans hbl);have HO4:=zH ho4;have HR1':=HR1;have hKH:=zys (k:=1) ho4 (by omega) (by have:=HM.out;omega);unfold agg at hKH;simp only[T.kind,T.text,T.num,T.vn,T.vk] at hKH;rw[show ((1:Nat):Int)=1 from rfl,HM.out] at hKH
 have KH:=zH hKH;obtain ⟨-,q0,q1,q2,q3,q4,-⟩:=HG4.out;have hm0:¬((m:Int)<0):=by omega
 clear ho4 hx4 hbl hKH KM p0 p1 p2 p3 p4 HG3 HF3 HO3 HB23 HR3;go_wp2_with fail
 refine KH.out.mono ?_;rintro e w5 ⟨rfl,hb5⟩;have hb15:=HB4.out.trans (hb5.mono HB4.out.size);have M5:=zH (M1.out.keep hb15);have HB5':=zH hb15;have HG5:=zH (HG4.out.step hb5);have HF5:=zH (HF4.out.step hb5);have HO5:=zH (HO4.out.below hb5);have HR5:=zH (HR1.out.below hb15);clear hb5 hb15 q0 q1 q2 q3 q4 KH HG4 HF4 HO4 HB4 HR1 HR1' M1;go_wp2_with fail
 refine (HI.out w5 M5.out).mono ?_;rintro e w6 ⟨t,rfl,hte,ho,hb6⟩;obtain ⟨ua2,uc2,ub2,ud2,hf1,hf2⟩:=ParI.zbm ho.good;obtain ⟨uk2,ut2,un2,uns2,uvn,uvk,uks2⟩:=t;simp only[T.vn,T.vk,T.names,T.kids] at hf1 hf2;subst hf1 hf2;unfold agg;simp only[T.kind,T.text,T.num,T.vn,T.vk];obtain ⟨w6b,hw6⟩:∃ w6b,w6b=w6.alloc (.cells #[.int .i64 uk2,.string ut2,.int .i64 un2,.slice ua2 uns2.length uc2,.slice ub2 uks2.length ud2] 25):=⟨_,rfl⟩
 have hba:Below w6.heap.size w6 w6b:=by rw[hw6];exact (zB _ _).alloc (zL _) _
 have hf:=zcq w6 (.int .i64 uk2) (.string ut2) (.int .i64 un2) (.slice ua2 uns2.length uc2) (.slice ub2 uks2.length ud2) 25;rw[<-hw6] at hf;have hb7:=hb6.trans (hba.mono hb6.size);have HB6:=zH (HB5'.out.trans (hb7.mono HB5'.out.size));have HG6:=zH (HG5.out.step hb7);have HF6:=zH (HF5.out.step hb7);have HO6:=zH (HO5.out.below hb7);have HR6:=zH (HR5.out.below hb7);have hrt:=(ho.below hba).reads
 rw[hte] at hrt;have HRT:=zH hrt;have HW6:=zH hw6;obtain ⟨-,f0,f1,f2,f3,f4,-⟩:=HF6.out;obtain ⟨-,g0,g1,g2,g3,g4,-⟩:=hf;clear ho hb6 hb7 hba hrt hte hw6 HB5' HG5 HF5 HO5 HR5 M5 HI
 go_upto_region 16 with fail
 rw[<-HW6.out];generalize hB9:w6.heap.size=B9 at *;clear HW6 hB9;go_wp2_with fail
 refine (TreeEq.same HRT.out HR6.out).mono ?_;rintro e w7 ⟨rfl,hb7⟩;have HB7:=zH (HB6.out.trans (hb7.mono HB6.out.size));have hKH:=zys (k:=1) (HO6.out.below hb7) (by omega) (by have:=HM.out;omega);unfold agg at hKH;simp only[T.kind,T.text,T.num,T.vn,T.vk] at hKH;rw[show ((1:Nat):Int)=1 from rfl,HM.out] at hKH
 have KH:=zH hKH;obtain ⟨-,p0,p1,p2,p3,p4,-⟩:=HG6.out.step hb7;clear hb7 hKH f0 f1 f2 f3 f4 g0 g1 g2 g3 g4 HG6 HF6 HO6 HR6 HB6 HRT;go_wp2_with fail
 refine KH.out.mono ?_;rintro e w8 ⟨rfl,hb8⟩;have HB8:=zH (HB7.out.trans (hb8.mono HB7.out.size));clear hb8 KH p0 p1 p2 p3 p4;go_wp2_with fail
 go_ret;exact ⟨rfl,HB1.out.trans (HB8.out.mono HB1.out.size)⟩
end Go.Proofs.YtlmhgeanknhcfaaGreatDoor.fnExactParseExprW
