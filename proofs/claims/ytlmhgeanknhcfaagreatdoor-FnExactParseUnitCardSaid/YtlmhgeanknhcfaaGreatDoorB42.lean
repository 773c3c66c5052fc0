/-
  ParAllU ParClsW ParUni ImplParseU
-/
import Derived.Test.YtlmhgeanknhcfaaGreatDoorB41
import Derived.Test.YtlmhgeanknhcfaaGreatDoorB34
import Derived.Test.YtlmhgeanknhcfaaGreatDoorB21
set_option maxHeartbeats 16000000
set_option maxRecDepth 10000
namespace Go.Proofs.YtlmhgeanknhcfaaGreatDoor
namespace ParI
open Go.RowKit
open Strs Tree Gram
open Go.Proofs.YtlmhgeanknhcfaaGreatDoor.Parser
open Go.Proofs.YtlmhgeanknhcfaaGreatDoor.Data (D Cells Exc zaa)
theorem z6q {β:Type} (pl:β->List Data.P) (g:Nat->R->Option (β×R)) (s:ByteArray) (w:World) (hM:Max w) {eb:Nat} {zs:List D} (hz:Cells eb zs w) (hzf:∀ o,w.frozen? ⟨eb,o,none⟩=false)
  (KRD:∀ (P:Cst) (w3:World),IS P 0 w3->Cells eb zs w3->(∀ o,w3.frozen? ⟨eb,o,none⟩=false)->eb<P.pb->Max w3->Calls Tryz.prog 58 #[.pointer (some ⟨P.pb,0,none⟩),.pointer (some ⟨eb,0,none⟩)] w3 (z9d pl g P eb w3)):
  Calls Tryz.prog 29 #[.string s,.func (.func 58) #[] #[.pointer (some ⟨eb,0,none⟩)]] w (zjo pl g s eb w):=by
 have hmf:∀ (fn:Fn) (first cap:Array Value) (w:World),(Instr.makeFunc fn first cap).run Tryz.prog w=.ok (.func fn first cap) w:=fun _ _ _ _=>rfl
 have hb0:Below w.heap.size w (w.alloc (.cells #[.bool false] 4)):=(zB _ _).alloc (zL _) _;have KT:=zH (ImplTokens.zfu s (w.alloc (.cells #[.bool false] 4)) (hM.keep hb0));have HOK:=zH (zv6 w false 4);have hez:=hz.1;have HZ:=zH (hz.step hb0);have HZF:=zH (fun o=>(hb0.frozen (p:=⟨eb,o,none⟩) hez).trans (hzf o))
 have HB0:=zH hb0;have HMX:=zH hM;have hw0:(w.alloc (.cells #[.bool false] 4)).heap.size=w.heap.size+1:=by simp
 have HW0:=zH hw0;have HKR:=zH KRD;clear hb0 hz hzf hM hw0 KRD
 go_enter_defers Tryz.func29,Tryz.ntmps29
 go_wp2_with fail
 refine KT.out.mono ?_;intro e w1 hread;cases hts:Tok.tokens s with
 | none=>
  rw[hts] at hread;obtain ⟨rfl,hb1⟩:=hread;have hsrc:zgn g s=none:=by unfold zgn;rw[hts]
  have HB1:=zH (HB0.out.trans (hb1.mono (by rw[HW0.out];omega)));have HSRC:=zH hsrc;obtain ⟨o1,o2,o3⟩:=HOK.out.step hb1;clear hb1 KT hts hsrc HKR;go_wp2_with fail
  refine ⟨.bool false,by simp[results,Tryz.results29,go_sem, *],?_⟩
  have hb9:Below w.heap.size w ((w1.setCell ⟨w.heap.size,0,none⟩ (.bool false)).setCell ⟨w.heap.size,0,none⟩ (.bool false)):=(HB1.out.setCell (by show w.heap.size<=w.heap.size;omega) _).setCell (by show w.heap.size<=w.heap.size;omega) _;exact ⟨by rw[HSRC.out];rfl,below_grown hb9 _,fun t0 h=>by (rw[HSRC.out] at h;cases h)⟩
 | some ts=>
  rw[hts] at hread;obtain ⟨v1,rfl,hown,hb1⟩:=hread;obtain ⟨ta,cap,rfl⟩:=Kit.za5 hown;have hroom:=SpecParse.zmb hown;have hs1:w.heap.size+1<=w1.heap.size:=by rw[<-HW0.out];exact hb1.size
  have hbase:∀ b o,ta=some ⟨b,o,none⟩->w.heap.size+1<=b/\b<w1.heap.size:=fun b o e=>by subst e;have h1:=hown.lt b rfl;rw[HW0.out] at h1;exact h1
  have hok1:=HOK.out.step hb1;obtain ⟨P,hP⟩:∃ P:Cst,P=⟨w1.heap.size,ta,cap,ts⟩:=⟨_,rfl⟩;have hpbw:P.pb=w1.heap.size:=by rw[hP]
  have hfit:yc0 P:=zrn (s:=s) (by rw[hP];exact hts) (by rw[hP];exact hroom.2.1) (by rw[hP];exact hroom.2.2);obtain ⟨w3,hw3⟩:∃ w3,w3=(w1.setCell ⟨w.heap.size,0,none⟩ (.bool true)).alloc (.cells #[.slice ta ts.length cap] 104):=⟨_,rfl⟩;have hb2:Below w.heap.size w1 (w1.setCell ⟨w.heap.size,0,none⟩ (.bool true)):=(zB _ _).setCell (by show w.heap.size<=w.heap.size;omega) _;have hsz2:(w1.setCell ⟨w.heap.size,0,none⟩ (.bool true)).heap.size=w1.heap.size:=by simp[World.setCell]
  have hba:Below (w1.setCell ⟨w.heap.size,0,none⟩ (.bool true)).heap.size (w1.setCell ⟨w.heap.size,0,none⟩ (.bool true)) w3:=by rw[hw3];exact (zB _ _).alloc (zL _) _
  have hps:IS P 0 w3:=by
   refine ⟨hfit,?_,Nat.zero_le _,?_,fun o=>?_,fun i t ht=>?_⟩
   ·rw[hpbw,hw3]
    simp
   ·refine ⟨ta,cap,?_,?_,hroom.2.2,fun hlt=>?_⟩
    ·rw[hpbw,hw3,hP]
     rw[<-hsz2]
     go_simp
    ·rw[hP];exact hroom.2.1
    ·rw[hP] at hlt
     obtain ⟨b,o,e,-⟩:=SpecParse.zgh hown 0 ts[0] (List.getElem?_eq_getElem hlt);rw[hP];exact ⟨b,o,e,by rw[e];rfl⟩
   ·rw[hpbw,hw3]
    rw[<-hsz2]
    go_simp
   ·rw[hP] at ht
    obtain ⟨b,o,e,hlt,d0,d1,d2⟩:=SpecParse.zgh hown i t ht;have h1:=hbase b o e;have hn:b≠w.heap.size:=by omega
    refine ⟨b,o,by rw[hP];exact e,by rw[hpbw];omega,cell_keep hba (Parser.other _ _ _ _ _ _ _ (.inl hn) d0),cell_keep hba (Parser.other _ _ _ _ _ _ _ (.inl hn) d1),cell_keep hba (Parser.other _ _ _ _ _ _ _ (.inl hn) d2)⟩
  have hB3:Below w.heap.size w w3:=(((HB0.out.trans (hb1.mono (by rw[HW0.out];omega))).trans hb2).trans (hba.mono (by rw[hsz2];omega)));have hz3:Cells eb zs w3:=Data.zbs (Data.zbs HZ.out (hb1.mono (by rw[HW0.out];omega)) hez) ((hb2.trans (hba.mono (by rw[hsz2];omega)))) hez;have hzf3:∀ o,w3.frozen? ⟨eb,o,none⟩=false:=Data.zb3 (Data.zb3 HZF.out (hb1.mono (by rw[HW0.out];omega)) hez) ((hb2.trans (hba.mono (by rw[hsz2];omega)))) hez
  have hok3:OkC w.heap.size true w3:=(zw4 hok1 true).step hba;have KR:=zH (HKR.out P w3 hps hz3 hzf3 (by rw[hpbw];omega) (HMX.out.keep hB3));rw[hpbw] at KR;have HSRC:Hid (zgn g s=match g P.toks.length (rest P 0) with|none=>none|some (x,r1)=>if r1.length=0 then some x else none):=zH (by unfold zgn;rw[hts,hP];rfl)
  have HPB:=zH hpbw;have HB3:=zH hB3;have HOK3:=zH hok3;have hs3:w3.heap.size=w1.heap.size+1:=by rw[hw3];simp
  have HW3:=zH hw3;have h8:=hfit.fit.len;obtain ⟨o1,o2,o3⟩:=hok1;clear hown hroom hbase hfit hb2 hsz2 hba hps hz3 hzf3 hok3 hB3 hb1 KT hts hpbw hP HZ HZF HOK HB0 hw3 HKR HMX
  go_upto_region 6 with fail
  rw[<-HW3.out];clear HW3;go_wp2_with fail
  refine KR.out.mono ?_;rintro e w4 (⟨x,ds,q,rfl,hde,ho,hcl,h,hx,hg⟩|⟨⟨v,rfl⟩,hx,hg⟩)
  case inr=>
   have hsrc:zgn g s=none:=by rw[HSRC.out,hg]
   have HSRC2:=zH hsrc;obtain ⟨o1',o2',o3'⟩:=HOK3.out.exc hx (by simp only[List.mem_cons,List.not_mem_nil,or_false,not_or];rw[HPB.out];omega);have HB4:=zH (zl2 HB3.out hx (by rw[HPB.out];omega));clear hg hx hsrc KR o1 o2 o3;go_wp2_with fail
   refine leaves_cons (f:=72) (args:=#[.pointer (some ⟨w.heap.size,0,none⟩)]) (by simp) (by simp[go_sem]) ?_;refine (zg9 ⟨w.heap.size,0,none⟩ true v [] _ o2' o3').mono ?_;rintro e u' w'' ⟨rfl,rfl,rfl⟩;refine ⟨.bool false,by simp[results,Tryz.results29,go_sem, *],?_⟩
   exact ⟨by rw[HSRC2.out];rfl,zly HB4.out (zL _) _,fun t0 h=>by (rw[HSRC2.out] at h;cases h)⟩
  have hHe:zgn g s=if (rest P q).length=0 then some x else none:=by rw[HSRC.out,hg]
  have hq:=h.1;rw[zaf] at hHe;have HSRC2:=zH hHe;have HB4:=zH (zl2 HB3.out hx (by rw[HPB.out];omega));have hok4:OkC w.heap.size true w4:=HOK3.out.exc hx (by simp only[List.mem_cons,List.not_mem_nil,or_false,not_or];rw[HPB.out];omega);obtain ⟨ca,cc,c0⟩:=h.2;rw[HPB.out] at c0;have HO4:=zH ho;have HC4:=zH hcl;have HD4:=zH hde;generalize P.toks.length-q=l at *;obtain ⟨o1',o2',o3'⟩:=hok4
  clear hg hx hHe KR o1 o2 o3 ho h hcl hde HSRC
  have hfin:∀ (b:Bool),(zgn g s=if b=true then some x else none)->zjo pl g s eb w (.returned (.bool b)) (w4.setCell ⟨w.heap.size,0,none⟩ (.bool b)):=fun b hb=>by
   refine ⟨?_,zly HB4.out (zL _) _,fun t0 h=>?_⟩
   ·rw[hb];cases b<;>rfl
   ·rw[hb] at h
    cases b with
    | false=>cases h
    | true=>cases h;exact ⟨ds,HD4.out,(HO4.out.frame fun y hy=>zc2 _ _ _ _ (by have:=HO4.out.lo y hy;omega)).mono (by omega),zjc HC4.out _ (by omega)⟩
  have HFIN:=zH hfin;clear hfin;by_cases hl:l=0
  ·have b1:((l:Int)==0)=true:=by rw[hl];rfl
   have HE:Hid (zgn g s=if true=true then some x else none):=zH (by rw[HSRC2.out,if_pos hl,if_pos rfl])
   clear hl;go_wp2_with fail
   refine leaves_cons (f:=72) (args:=#[.pointer (some ⟨w.heap.size,0,none⟩)]) (by simp) (by simp[go_sem]) ?_;refine (zgu ⟨w.heap.size,0,none⟩ _).mono ?_;rintro e u' w'' ⟨rfl,rfl,rfl⟩;exact ⟨.bool true,by simp[results,Tryz.results29,go_sem, *],HFIN.out true HE.out⟩
  ·have b1:((l:Int)==0)=false:=by
    rw[beq_eq_false_iff_ne];omega
   have HE:Hid (zgn g s=if false=true then some x else none):=zH (by rw[HSRC2.out,if_neg hl,if_neg (by simp)])
   clear hl;go_wp2_with fail
   refine leaves_cons (f:=72) (args:=#[.pointer (some ⟨w.heap.size,0,none⟩)]) (by simp) (by simp[go_sem]) ?_;refine (zgu ⟨w.heap.size,0,none⟩ _).mono ?_;rintro e u' w'' ⟨rfl,rfl,rfl⟩;exact ⟨.bool false,by simp[results,Tryz.results29,go_sem, *],HFIN.out false HE.out⟩
end ParI
namespace ParI
open Go.RowKit
open Strs Tree Gram
open Go.Proofs.YtlmhgeanknhcfaaGreatDoor.Parser
open Go.Proofs.YtlmhgeanknhcfaaGreatDoor.Data (D Cells Exc zaa strs zhe zbc za8 zcx zay M C val zae)
theorem zo1 {n:Nat} {P:Cst} {p:Nat} {w:World} (h:IS P p w) (hn:P.toks.length<n):
  Calls Tryz.prog 107 #[.pointer (some ⟨P.pb,0,none⟩)] w (yfc P w (zf5 (expr n) (rest P p))):=by
 obtain ⟨i0,hi,hz0,hz1,hz2⟩:=info_parts yc8;have hb0:Below w.heap.size w (w.alloc (.cells #[.string ⟨#[]⟩,.string ⟨#[]⟩,.slice none 0 0,.slice none 0 0] 75)):=(zB _ _).alloc (zL _) _;have HW0:Hid ((w.alloc (.cells #[.string ⟨#[]⟩,.string ⟨#[]⟩,.slice none 0 0,.slice none 0 0] 75)).heap.size=w.heap.size+1):=zH (by simp);have HZ:=zH (zae w (cD ⟨#[]⟩ ⟨#[]⟩ (.slice none 0 0) (.slice none 0 0)) 75)
 have HZF:=zH (show ∀ o,(w.alloc (.cells #[.string ⟨#[]⟩,.string ⟨#[]⟩,.slice none 0 0,.slice none 0 0] 75)).frozen? ⟨w.heap.size,o,none⟩=false from fun o=>by go_simp)
 have HI0:=zH (h.below hb0);have HT0:=zH ((za2.refl P w).below hb0);have HLO:=zH h.lo;have hpbl:=h.size;have h8:=h.fit.fit.len;have HTX:=zH (fun q=>Nat.le_trans (zcn (p:=q) h.fit.fit) (show 4000<=maxLen by unfold maxLen;omega))
 have KW1:=fun (w1:World) (q:Nat) (s:ByteArray) (h1:IS P q w1) hb=>zH (znj h1 (s:=s) hb)
 have KW0:=fun (w1:World) (q:Nat) (s:ByteArray) (h1:IS P q w1) hb=>zH (zpf h1 (s:=s) hb)
 have KS1:=fun (w1:World) (q:Nat) (s:ByteArray) (h1:IS P q w1) hb=>zH (zn1 h1 (s:=s) hb)
 have KS0:=fun (w1:World) (q:Nat) (s:ByteArray) (h1:IS P q w1) hb=>zH (zrm h1 (s:=s) hb)
 have KT1:=fun (w1:World) (q:Nat) (h1:IS P q w1) (hb:hd 1 (rest P q)=true)=>zH (zcr h1 hb)
 have KT0:=fun (w1:World) (q:Nat) (h1:IS P q w1) (hb:hd 1 (rest P q)=false)=>zH (zfq h1 (by decide) hb)
 have KNM:=fun (w1:World) (q:Nat) (h1:IS P q w1)=>zH (zfk h1)
 have KM:=zH (fun (w1:World) (q:Nat) (h1:IS P q w1)=>zj0 (n:=n) h1 hn)
 have HLT:=zH (zd4 n);have HSH:=zH (zau n);generalize hG:zf5 (expr n) (rest P p)=G;have HG:=zH hG;clear hG h hb0;generalize hpb:P.pb=pb at *;have HPB:=zH hpb;clear hpb;generalize hN:P.toks.length=N at *;have HN:=zH hN;clear hN;go_enter Tryz.func107,Tryz.ntmps107;go_wp2_with fail
 cases hw0:wd zfm (rest P p) with
 | false=>
  have K:=KW0 _ p _ HI0.out hw0;have HG2:Hid (G=none):=zH (by rw[<-HG.out];exact z4e hw0);clear hw0 KW1 KW0 KS1 KS0 KT1 KT0 KNM KM;refine K.out.mono ?_;rintro e w3 ⟨⟨v,rfl⟩,hb3⟩;have HT3:=zH (HT0.out.below hb3);clear hb3;go_wp2_with fail
  exact ⟨rfl,.inr ⟨⟨_,rfl⟩,HT3.out,HG2.out⟩⟩
 | true=>
 have K:=KW1 _ p _ HI0.out hw0;have HD0:=zH hw0;clear hw0;refine K.out.mono ?_;rintro e w1 ⟨rfl,h1,ht1⟩;have HI1:=zH h1;have HT1:=zH (HT0.out.trans ht1);have hs1:=ht1.size;rw[HW0.out] at hs1;have hz1:=Data.zb4 ht1 [P.pb] (by simp);have hnz:w.heap.size∉[P.pb]:=by simp;rw[HPB.out];omega
 have HZ1:=zH (hz1.cells HZ.out hnz);have HZF1:=zH (zc4 HZF.out HZ.out.1 hz1 hnz);have HS1:=zH hs1;clear h1 ht1 hz1 K HI0 HT0 HZ HZF hs1;cases hd1:hd 1 (rest P (p+1)) with
 | false=>
  have K:=KT0 _ (p+1) HI1.out hd1;have HG2:Hid (G=none):=zH (by rw[<-HG.out];exact z6y HD0.out (by rw[zab];exact hd1))
  clear hd1 KW1 KW0 KS1 KS0 KT1 KT0 KNM KM;go_wp2_with fail
  refine K.out.mono ?_;rintro e w3 ⟨⟨v,rfl⟩,hb3⟩;have HT3:=zH (HT1.out.below hb3);clear hb3;go_wp2_with fail
  exact ⟨rfl,.inr ⟨⟨_,rfl⟩,HT3.out,HG2.out⟩⟩
 | true=>
 have K:=KT1 _ (p+1) HI1.out hd1;have HD1:=zH hd1;have HNS:=zH (HTX.out (p+1));clear hd1;generalize hnm:txt (rest P (p+1))=nm at *;have HNM:=zH hnm;clear hnm;go_wp2_with fail
 refine K.out.mono ?_;rintro e w2 ⟨rfl,h2,ht2⟩;have hba:Below w2.heap.size w2 (w2.alloc (.cells #[.string nm,.string ⟨#[]⟩,.slice none 0 0,.slice none 0 0] 75)):=(zB _ _).alloc (zL _) _;have hs2:=ht2.size;have hz2:=Data.zb4 ht2 [P.pb] (by simp);have hzz:=hz2.cells HZ1.out hnz;have hzf:=zc4 HZF1.out HZ1.out.1 hz2 hnz;have hss:=HS1.out
 have HC2:Hid (ClS P w w2.heap.size nm ⟨#[]⟩ [] (.slice none 0 0) (w2.heap.size+1) (p+2) (.slice none 0 0) (w2.alloc (.cells #[.string nm,.string ⟨#[]⟩,.slice none 0 0,.slice none 0 0] 75))):=
  zH ⟨hzz.step hba,fun o=>(hba.frozen (p:=⟨w.heap.size,o,none⟩) hzz.1).trans (hzf o),zae w2 (cD nm ⟨#[]⟩ (.slice none 0 0) (.slice none 0 0)) _,fun o=>by go_simp,by omega,Nat.lt_succ_self _,
   Data.row_iff.2 (Data.Row.nil _ _ _ _ (by decide)),(fun b hb=>nomatch (show b∈([]:List Nat) from hb)),by simp,h2.below hba,(HT1.out.trans ht2).below hba,HLO.out⟩
 clear h2 ht2 hba hs2 hz2 hzz hzf hss K HI1 HT1 HZ1 HZF1 HS1 HW0
 go_upto_region 3 with fail
 generalize (w2.alloc (.cells #[.string nm,.string ⟨#[]⟩,.slice none 0 0,.slice none 0 0] 75))=w3 at *;generalize w2.heap.size=cb at *;cases hw2:wd ze6 (rest P (p+2)) with
 | false=>
  have K:=KW0 _ (p+2) _ HC2.out.is hw2;have HG2:Hid (G=none):=zH (by rw[<-HG.out];exact z5s HD0.out (by rw[zab];exact HD1.out) (by rw[zab,zab];exact hw2))
  clear hw2 KW1 KW0 KS1 KS0 KT1 KT0 KNM KM;go_wp2_with fail
  refine K.out.mono ?_;rintro e w4 ⟨⟨v,rfl⟩,hb3⟩;have HT3:=zH (HC2.out.turn.below hb3);clear hb3;go_wp2_with fail
  exact ⟨rfl,.inr ⟨⟨_,rfl⟩,HT3.out,HG2.out⟩⟩
 | true=>
 have K:=KW1 _ (p+2) _ HC2.out.is hw2;have HD2:=zH hw2;clear hw2;go_wp2_with fail
 refine K.out.mono ?_;rintro e w4 ⟨rfl,h4,ht4⟩;have HC4:=zH (HC2.out.go ht4 h4);clear h4 ht4 K HC2;cases hd3:hd 1 (rest P (p+2+1)) with
 | false=>
  have K:=KT0 _ (p+2+1) HC4.out.is hd3;have HG2:Hid (G=none):=zH (by rw[<-HG.out];exact z5n HD0.out (by rw[zab];exact HD1.out) (by rw[zab,zab];exact HD2.out) (by rw[zab,zab,zab];exact hd3))
  clear hd3 KW1 KW0 KS1 KS0 KT1 KT0 KNM KM;go_wp2_with fail
  refine K.out.mono ?_;rintro e w5 ⟨⟨v,rfl⟩,hb3⟩;have HT3:=zH (HC4.out.turn.below hb3);clear hb3;go_wp2_with fail
  exact ⟨rfl,.inr ⟨⟨_,rfl⟩,HT3.out,HG2.out⟩⟩
 | true=>
 have K:=KT1 _ (p+2+1) HC4.out.is hd3;have HPS:=zH (HTX.out (p+2+1))
 have HGT:Hid (G=z1j (expr n) nm (txt (rest P (p+2+1))) (rest P (p+2+1+1))):=zH (by rw[<-HG.out,yao HD0.out (by rw[zab];exact HD1.out) (by rw[zab,zab];exact HD2.out) (by rw[zab,zab,zab];exact hd3),zab,HNM.out,zab,zab,zab])
 clear hd3 HG HD0 HD1 HD2 HNM;generalize txt (rest P (p+2+1))=pa at *;go_wp2_with fail
 refine K.out.mono ?_;rintro e w5 ⟨rfl,h5,ht5⟩;have hc5:=HC4.out.go ht5 h5;have m1:=hc5.c.at 1 (.str ⟨#[]⟩) rfl;have f1:=hc5.cf 1;simp only[val] at m1;have HC5:=zH (hc5.par pa);clear h5 ht5 K HC4 hc5;obtain ⟨w6,hw6⟩:∃ w6,w6=w5.setCell ⟨cb,1,none⟩ (.string pa):=⟨_,rfl⟩;rw[<-hw6] at HC5;have HW6:=zH hw6;clear hw6;generalize hq0:p+2+1+1=q0 at *
 go_upto_region 5 with fail
 rw[<-HW6.out];clear HW6 m1 f1;have HYES:=fun hb=>KS1 w6 q0 zi0 HC5.out.is hb
 have HNO:=fun hb=>KS0 w6 q0 zi0 HC5.out.is hb
 go_cut [15] from 14 to 15 (fun v wx=>∃ f:Bool,v=.bool f/\wd zi0 (rest P q0)=f/\ClS P w cb nm pa [] (.slice none 0 0) (cb+1) (if f then q0+1 else q0) (.slice none 0 0) wx)
 case first=>
  go_wp2_with fail
  cases hb:wd zi0 (rest P q0) with
  | true=>
   refine (HYES hb).out.mono ?_;rintro e w7 ⟨rfl,h7,ht7⟩;have HC7:=zH (HC5.out.go ht7 h7);have HB:=zH hb;clear h7 ht7 hb;go_wp2_with fail
   go_meet
   exact ⟨true,rfl,HB.out,HC7.out⟩
  | false=>
   refine (HNO hb).out.mono ?_;rintro e w7 ⟨rfl,hb7⟩;have HC7:=zH (HC5.out.below hb7);have HB:=zH hb;clear hb7 hb;go_wp2_with fail
   go_meet
   exact ⟨false,rfl,HB.out,HC7.out⟩
 case rest=>
 obtain ⟨f,rfl,hf,hc6⟩:=hcut;have HF:=zH hf;have HC6:=zH hc6;clear hf hc6 HYES HNO HC5
 go_upto_if 15 with fail
 go_cut [] from 16 to 18 (fun wx=>∃ fs a c q l1,ClS P w cb nm pa fs (.slice a fs.length c) l1 q (.slice none 0 0) wx/\Gram.fields (rest P q0)=(fs,rest P q))
 case first=>
  cases f with
  | true=>
   have HFE:Hid (Gram.fields (rest P q0)=zbx [] (rest P (q0+1))):=zH (by unfold Gram.fields;rw[HF.out,if_pos rfl,zab]);have hc7:ClS P w cb nm pa [] (.slice none 0 0) (cb+1) (q0+1) (.slice none 0 0) wc:=HC6.out;have HC7:=zH hc7;have K:=KNM wc (q0+1) hc7.is;clear hc7 HC6;go_wp2_with fail
   refine K.out.mono ?_;rintro e w8 ⟨v,ts,q,rfl,hown,hlen,hsz,h8',ht8,hgo⟩;obtain ⟨ra,rc,rfl⟩:=Kit.za5 hown;have hc8:=HC7.out.go ht8 h8';have hle:=HC7.out.le;have m2:=hc8.c.at 2 (.row 0 1 (.slice none 0 0) []) rfl;have f2:=hc8.cf 2;simp only[val] at m2;have HC8:=zH (hc8.yfn (zza hown (by omega)) hsz);have HGO:=zH hgo;clear hc8 hown hlen hsz h8' ht8 hgo K;go_wp2_with fail
   go_meet
   exact ⟨ts,ra,rc,q,_,HC8.out,by rw[HFE.out,HGO.out]⟩
  | false=>
   have HFE:Hid (Gram.fields (rest P q0)=([],rest P q0)):=zH (by unfold Gram.fields;rw[HF.out];rfl);go_wp2_with fail
   go_meet
   exact ⟨[],none,0,q0,_,HC6.out,HFE.out⟩
 case rest=>
  obtain ⟨fs,fa,fc,q1,l1,hcl,hfl⟩:=hcut;have HCL:=zH hcl;have HGF:Hid (G=match zce (expr n) [] (rest P q1) with|none=>none|some (ms,r1)=>some (⟨nm,pa,fs,ms⟩,r1)):=zH (by rw[HGT.out];unfold z1j;rw[hfl];rfl)
  have hq1:=hcl.is.le;clear hcl hfl HC6 HGT KNM KW1 KW0 KT1 KT0;go_wp2_with fail
  go_loopw [] (fun wr=>∃ (ms:List M) (ds:List D) (mv:Value) (q:Nat),ms.length<=q/\ClS P w cb nm pa fs (.slice fa fs.length fc) l1 q mv wr/\Data.Row l1 wr 41 5 mv ds/\zaa ds=za8 ms/\zce (expr n) [] (rest P q1)=zce (expr n) ms (rest P q)) (fun wr=>lft pb wr)
  case atStart=>exact ⟨[],[],_,q1,Nat.zero_le _,HCL.out,Data.Row.nil _ _ _ _ (by decide),rfl,rfl⟩
  case round=>
   clear HCL;obtain ⟨ms,ds,mv,q,hlen,hcl,hrow,hds,hgo⟩:=hrel
   have hdl:ds.length=ms.length*5:=by have:=congrArg List.length hds;rw[Data.za0,Data.zei] at this;exact this
   obtain ⟨ra,rc,rfl⟩:=hrow.form hdl;have HC:=zH hcl;have HR:=zH hrow;have HDS:=zH hds;have HGO:=zH hgo;have hqN:=hcl.is.le;rw[HN.out] at hqN;have hpl2:=hcl.is.lft;rw[HPB.out,HN.out] at hpl2;have hpl3:=zH hpl2;have KY:=fun hb=>KS1 wr q z5l hcl.is hb
   have KN:=fun hb=>KS0 wr q z5l hcl.is hb
   have hcl1:=hcl.cl;have hclt:=hcl.lt;have hpcb:pb<cb:=by omega
   have hpl1:pb<l1:=by omega
   clear hcl hrow hds hgo hpl2;cases hb:wd z5l (rest P q) with
   | true=>
    have K:=KY hb;have HGG:Hid (G=some (⟨nm,pa,fs,ms⟩,rest P (q+1))):=zH (by rw[HGF.out,HGO.out,zia hb,zab]);clear hb KY KN KS1 KS0 KM;go_wp2_with fail
    refine K.out.mono ?_;rintro e w7 ⟨rfl,h7,ht7⟩;have hc7:=HC.out.go ht7 h7;have hr7:=HR.out.exc (Data.zb4 ht7 [P.pb] (by simp)) (fun x hx=>by simp at hx;rw[HPB.out] at hx;omega)
    have m0:=hc7.c.at 0 (.str nm) rfl;have m1:=hc7.c.at 1 (.str pa) rfl;have m2:=hc7.c.at 2 (.row 0 1 (.slice fa fs.length fc) []) rfl;have m3:=hc7.c.at 3 (.row 0 5 (.slice ra ms.length rc) []) rfl;simp only[val] at m0 m1 m2 m3;have z0:=hc7.z.at 0 (.str ⟨#[]⟩) rfl;have z1:=hc7.z.at 1 (.str ⟨#[]⟩) rfl;have z2:=hc7.z.at 2 (.row 0 1 (.slice none 0 0) []) rfl;have z3:=hc7.z.at 3 (.row 0 5 (.slice none 0 0) []) rfl
    simp only[val] at z0 z1 z2 z3;have fz:=hc7.zf;have ho2:=(Data.row_iff.2 hr7).mono (base':=cb+1) (by omega)
    have HO:=zH (z3w HNS.out HPS.out ((hc7.own.append ho2 (fun x hx hy=>by have a1:=hc7.hi x hx;have a2:=(Data.row_iff.2 hr7).lo x hy;omega)).mono (base':=w.heap.size+1) (by omega)))
    have HC7:=zH hc7;clear h7 ht7 hc7 hr7 ho2 K;go_wp2_with fail
    have hbf:=Data.zbl (zL w.heap.size) [.string nm,.string pa,.slice fa fs.length fc,.slice ra ms.length rc] w7 w7 0 (zB _ _);refine bodyPost_ret (v:=.agg #[.string nm,.string pa,.slice fa fs.length fc,.slice ra ms.length rc]) (by simp[results,Tryz.results107,go_sem, *]) rfl ?_;exact .inl ⟨_,_,q+1,rfl,zuk nm pa (.slice fa fs.length fc) (.slice ra ms.length rc) fs ms ds HDS.out,(Data.Own.zno (Nat.lt_succ_self _) [.string nm,.string pa,.slice fa fs.length fc,.slice ra ms.length rc] w7 0 HO.out).mono (Nat.le_succ _),HC7.out.is.low hbf HLO.out,HC7.out.turn.low hbf,HGG.out⟩
   | false=>
    have K:=KN hb;have HE:=zH hb;clear hb KY KN;go_wp2_with fail
    refine K.out.mono ?_;rintro e w7 ⟨rfl,hb7⟩;have HC7:=zH (HC.out.below hb7);have HR7:=zH (HR.out.below hb7);have f3:=HC7.out.c.at 3 (.row 0 5 (.slice ra ms.length rc) []) rfl;simp only[val] at f3;have fz3:=HC7.out.cf 3;have hs7:=HC7.out.c.1;have g3:∀ k,(w7.drewN k).cell? ⟨cb,3,none⟩=some (.slice ra ms.length rc):=fun k=>cell_keep (zas w7 k) f3
    have gz3:∀ k,(w7.drewN k).frozen? ⟨cb,3,none⟩=false:=fun k=>((zas w7 k).frozen (p:=⟨cb,3,none⟩) hs7).trans fz3
    have KM7:=fun k=>zH (KM.out (w7.drewN k) q (HC7.out.is.below (zas w7 k)))
    clear hb7 K HC HR;go_wp2_with fail
    cases hbn:Gram.method (expr n) (rest P q) with
    | none=>
     rw[hbn] at KM7
     have KB7:=fun k=>zH ((KM7 k).out.mono (R':=fun e w'=>zsr e/\za2 P (w7.drewN k) w') (by
      rintro e w' (⟨ds,m,q,-,-,-,-,-,h⟩|⟨h1,h2,-⟩)
      ·cases h
      ·exact ⟨h1,h2⟩))
     have HG2:Hid (G=none):=zH (by rw[HGF.out,HGO.out,zf6 HE.out hbn]);clear hbn KM7;refine wp_region_any (by kernel_rfl) ?_
     try (change wpAny _ _ _ _ _ _ _ (World.drew _))
     refine wpAny_take (i:=0) (v:=?_) rfl (by kernel_rfl) (by kernel_rfl) (by kernel_rfl) (fun _ _ _ h=>h) (Or.inl ⟨by rfl,?_⟩) ?_
     rotate_left
     ·intro w
      go_simp
      try with_reducible rfl
     refine wpAny_take (i:=2) (v:=?_) rfl (by kernel_rfl) (by kernel_rfl) (by kernel_rfl) (fun _ _ _ h=>h) (Or.inl ⟨by rfl,?_⟩) ?_
     rotate_left
     ·intro w
      go_simp
      try with_reducible rfl
     refine wpAny_ready (rs:=[1,3]) (by kernel_rfl) (by simp) ?_;refine AllReady.cons rfl (fun K hK=>?_) ?_
     ·go_simp
      refine hK _ _ ?_;clear hK K;refine wpAny_ready (rs:=[3]) (by kernel_rfl) (by simp) ?_;refine AllReady.cons rfl (fun K hK=>?_) AllReady.nil
      go_simp
      refine (KB7 _).out.mono ?_;rintro e w8 ⟨⟨v,rfl⟩,ht8⟩;have HT8:=zH (HC7.out.turn.trans (((za2.refl P w7).below (zas w7 _)).trans ht8));clear ht8;exact ⟨rfl,.inr ⟨⟨_,rfl⟩,HT8.out,HG2.out⟩⟩
     ·refine AllReady.cons rfl (fun K hK=>?_) AllReady.nil
      go_simp
      refine (KB7 _).out.mono ?_;rintro e w8 ⟨⟨v,rfl⟩,ht8⟩;have HT8:=zH (HC7.out.turn.trans (((za2.refl P w7).below (zas w7 _)).trans ht8));clear ht8;exact ⟨rfl,.inr ⟨⟨_,rfl⟩,HT8.out,HG2.out⟩⟩
    | some y=>
     obtain ⟨m,r1⟩:=y;rw[hbn] at KM7
     have KB7:=fun k=>zH ((KM7 k).out.mono (R':=fun e w'=>∃ es q8,e=.returned (Data.agg es)/\zaa es=zbc m/\Data.Own w7.heap.size w' es/\IS P q8 w'/\za2 P (w7.drewN k) w'/\r1=rest P q8) (by
      rintro e w' (⟨es,m',q8,h1,h2,h3,h4,h5,h6⟩|⟨-,-,h6⟩)
      ·cases h6
       exact ⟨es,q8,h1,h2,h3,h4,h5,rfl⟩
      ·cases h6))
     have HRL:=zH (fun b hb=>((HR7.out.lt b hb).2:b<w7.heap.size))
     have HML:Hid (r1.length<(rest P q).length):=zH (zgc HLT.out HSH.out hbn).1;have HKG:Hid (zce (expr n) [] (rest P q1)=zce (expr n) (ms++[m]) r1):=zH (by rw[HGO.out,zkz HLT.out HSH.out HE.out hbn]);clear hbn KM7
     go_region_law
      (first
      | (
       rw[if_pos (by rfl)];unfold Oper.wp
       go_simp
       refine (KB7 _).out.mono ?_;rintro e w8 ⟨es,q8,rfl,he8,ho8,h8i,ht8,hr8⟩;obtain ⟨x2,n2,k2,x3,n3,k3,x4,n4,k4,hv8⟩:=zj6 he8 ho8.good;rw[show Data.agg es=.agg #[.string m.sel,.bool m.cls,.slice x2 n2 k2,.slice x3 n3 k3,.slice x4 n4 k4] by unfold Data.agg;rw[hv8]]
       have htd:=((za2.refl P w7).below (zas w7 _)).trans ht8;have HC8:=zH (HC7.out.go htd h8i);have HR8:=zH (HR7.out.exc (Data.zb4 htd [P.pb] (by simp)) (fun x hx=>by simp at hx;rw[HPB.out] at hx;omega))
       have HO8:=zH ho8;have HE8:=zH he8;have HV8:=zH hv8;have HRR:=zH hr8;have e4:=HC8.out.c.at 3 (.row 0 5 (.slice ra ms.length rc) []) rfl;have e5:=HC8.out.cf 3;simp only[val] at e4;have hsf:=HC8.out.c.1;have a4:∀ o,(w8.alloc o).cell? ⟨cb,3,none⟩=some (.slice ra ms.length rc):=fun o=>cell_keep ((zB _ _).alloc (zL _) o) e4
       have a5:∀ o,(w8.alloc o).frozen? ⟨cb,3,none⟩=false:=fun o=>(((zB w8.heap.size w8).alloc (zL _) o).frozen (p:=⟨cb,3,none⟩) hsf).trans e5
       have a6:∀ o,(w8.alloc o).drew.cell? ⟨cb,3,none⟩=some (.slice ra ms.length rc):=fun o=>a4 o
       have a7:∀ o,(w8.alloc o).drew.frozen? ⟨cb,3,none⟩=false:=fun o=>a5 o
       have hsp:l1<=w8.heap.size:=HC8.out.le;clear he8 ho8 h8i ht8 htd hv8 hr8)
      | (
       refine step_append_lies _ (by rfl) _ _ _ (by rfl) l1 41 i0 (.agg #[.string ByteArray.empty,.bool false,.slice none 0 0,.slice none 0 0,.slice none 0 0]) 5 96 Tryz.underlying73 hi hz0 hz1 hz2 rfl (by decide) _ ms.length (Data.vals ds) (by rfl) (own_keep (HR8.out.zu5 hdl) (by first|exact (zB _ _).alloc (zL _) _|exact ((zB _ _).alloc (zL _) _).drew|exact ((zB _ _).drew).alloc (zL _) _))
        ⟨w8.heap.size,0,none⟩ 1 1 [.string m.sel,.bool m.cls,.slice x2 n2 k2,.slice x3 n3 k3,.slice x4 n4 k4] (by rfl) (by rfl) (World.news_of_block (cs:=#[.string m.sel,.bool m.cls,.slice x2 n2 k2,.slice x3 n3 k3,.slice x4 n4 k4]) (t:=41) (fr:=(0,0)) (heap_alloc_new w8 _)) (by intro u hu;simp at hu;rcases hu with rfl|rfl|rfl|rfl|rfl<;>rfl)
        (by omega) (by unfold maxLen;omega) (by omega) (by simp;omega) (w8.heap.size+1) (by simp) ?_
       intro g cap w9 hown hgrow hat hlt;have hbw:Below l1 w8 w9:=zdy (base:=l1) hsp (HR8.out.zu5 hdl) hgrow;have hc9:=HC8.out.low hbw;have m4:=hc9.c.at 3 (.row 0 5 (.slice ra ms.length rc) []) rfl;simp only[val] at m4;have m5:=hc9.cf 3))
     all_goals
      have HROW:=zH (HR8.out.app (o:=.cells #[.string m.sel,.bool m.cls,.slice x2 n2 k2,.slice x3 n3 k3,.slice x4 n4 k4] 41) (x:=es) (n:=ms.length) hdl HO8.out (by rw[<-Data.zfj,HV8.out];rfl) (by have:=HC7.out.le;omega) HRL.out (by rw[HV8.out];exact hown) hgrow (by
       rcases hat with e|e
       ·exact .inl e.symm
       ·exact .inr (by rw[e];rfl)))
      have HC9:=zH (hc9.z9x (.slice (some ⟨g,0,none⟩) (ms.length+1) cap));have HR9:Hid (Data.Row l1 (w9.setCell ⟨cb,3,none⟩ (.slice (some ⟨g,0,none⟩) (ms.length+1) cap)) 41 5 (.slice (some ⟨g,0,none⟩) (ms.length+1) cap) (ds++es)):=zH (Data.row_iff.1 ((Data.row_iff.2 HROW.out).zyw (by omega) 3 _));have HNE:Hid (zaa (ds++es)=za8 (ms++[m])):=zH (by rw[Data.zao,HDS.out,HE8.out,zjl])
      clear hown hgrow hat hbw hc9 m4 m5 KB7 e4 e5 a4 a5 a6 a7 g3 gz3 f3 fz3 HROW HR8 HO8 HV8 HE8;go_wp2_with fail
      go_roundw
      case rel=>have h1:=HML.out;rw[HRR.out,zaf,zaf,HN.out] at h1;have h2:=HC9.out.is.le;rw[HN.out] at h2;exact ⟨ms++[m],ds++es,_,q8,by simp;omega,by simpa using HC9.out,by simpa using HR9.out,HNE.out,by rw[HKG.out,HRR.out]⟩
      case measure=>have h1:=HML.out;rw[HRR.out,zaf,zaf,HN.out] at h1;have h3:=HC9.out.is.lft;rw[HPB.out,HN.out] at h3;rw[h3,hpl3.out];omega
end ParI
end Go.Proofs.YtlmhgeanknhcfaaGreatDoor
namespace Go.Proofs.YtlmhgeanknhcfaaGreatDoor.ParI
open Go.RowKit
open Strs Tree Gram
open Go.Proofs.YtlmhgeanknhcfaaGreatDoor.Parser
open Go.Proofs.YtlmhgeanknhcfaaGreatDoor.Data (D Cells Exc zaa strs zhe zbc za8 zcx zbj zde zay M C U val zae)
def uD (s:ByteArray) (cv vt vk:Value):List D:=[.row 0 4 cv [],.str s,.bool false,.row 0 1 (.slice none 0 0) [],.row 0 1 vt [],.row 0 5 vk []]
structure UnS (P:Cst) (w:World) (ub:Nat) (cv:Value) (q:Nat) (wr:World):Prop where
 z:Cells w.heap.size (uD ⟨#[]⟩ (.slice none 0 0) (.slice none 0 0) (.slice none 0 0)) wr
 zf:∀ o,wr.frozen? ⟨w.heap.size,o,none⟩=false
 c:Cells ub (uD zco cv (.slice none 0 0) (.slice none 0 0)) wr
 cf:∀ o,wr.frozen? ⟨ub,o,none⟩=false
 lt:w.heap.size<ub
 is:IS P q wr
 turn:za2 P w wr
 lo:Lo P w.heap.size
section
variable {P:Cst} {w:World} {ub:Nat} {cv:Value} {q q':Nat} {wr w':World}
theorem UnS.go (h:UnS P w ub cv q wr) (ht:za2 P wr w') (h':IS P q' w'):UnS P w ub cv q' w':=by
 have hx:=Data.zb4 ht [P.pb] (by simp);have hp:=h.lo.1;have hl:=h.lt;have n1:w.heap.size∉[P.pb]:=by simp;omega
 have n2:ub∉[P.pb]:=by simp;omega
 exact ⟨hx.cells h.z n1,zc4 h.zf h.z.1 hx n1,hx.cells h.c n2,zc4 h.cf h.c.1 hx n2,h.lt,h',h.turn.trans ht,h.lo⟩
theorem UnS.below (h:UnS P w ub cv q wr) (hb:Below wr.heap.size wr w'):UnS P w ub cv q w':=h.go ((za2.refl P wr).below hb) (h.is.below hb)
theorem UnS.low (h:UnS P w ub cv q wr) (hb:Below (ub+1) wr w'):UnS P w ub cv q w':=by have h1:=h.lt;exact ⟨Data.zbs h.z hb (by omega),Data.zb3 h.zf hb (by omega),Data.zbs h.c hb (by omega),Data.zb3 h.cf hb (by omega),h.lt,h.is.low hb (h.lo.le (by omega)),h.turn.low (hb.mono (by omega)),h.lo⟩
theorem UnS.classes (h:UnS P w ub cv q wr) (v:Value):UnS P w ub v q (wr.setCell ⟨ub,0,none⟩ v):=by have h1:=h.lt;have hb:Below ub wr (wr.setCell ⟨ub,0,none⟩ v):=(zB _ _).setCell (by show ub<=ub;omega) _;exact ⟨Data.zb5 h.z v (by omega),zbg h.zf _ _,Data.Cells.set h.c 0 (.row 0 4 v []) (by show 0<6;decide) (h.cf 0),zbg h.cf _ _,h.lt,h.is.set (h.lo.le (by omega)) _ _,h.turn.low (hb.mono (by omega)),h.lo⟩
end
def yer (P:Cst) (w:World) (g:Option (U×R)) (e:Ending) (w':World):Prop:=
 (∃ ds u q,e=.returned (Data.agg ds)/\zaa ds=zde u/\Data.Own w.heap.size w' ds/\IS P q w'/\za2 P w w'/\g=some (u,rest P q))\/(zsr e/\za2 P w w'/\g=none)
theorem ya1 {ex:X} {r:R}:Gram.unit ex r=match zbk ex [] r with
  | none=>none
  | some (cs,r1)=>if wd zco r1 then (match zrz ex r1.tail with
   | none=>none
   | some (ts,b,r3)=>some (⟨cs,⟨zco,false,[],ts,b⟩⟩,r3)) else none:=by
 unfold Gram.unit zrz;cases zbk ex [] r with
 | none=>rfl
 | some y=>
  obtain ⟨cs,r1⟩:=y;simp only
  split
  ·cases names r1.tail with
   | none=>rfl
   | some z=>
    obtain ⟨ts,r2⟩:=z;simp only;cases zby ex [] r2 with
    | none=>rfl
    | some u=>rfl
  ·rfl
theorem z0i {r:R} (h:wd zco r=true):wd zfm r=false:=by
 cases r with
 | nil=>rfl
 | cons t r=>
  simp only[wd,Bool.and_eq_true,decide_eq_true_eq] at h;simp only[wd,h.2];have:decide (zco=zfm)=false:=by decide
  rw[this,Bool.and_false]
theorem zs4 {ex:X} {cs:List C} {r:R} (hm:wd zco r=false) (h:zf5 ex r=none):(match zbk ex cs r with
  | none=>none
  | some (cs,r1)=>if wd zco r1 then (match zrz ex r1.tail with
   | none=>none
   | some (ts,b,r3)=>some ((⟨cs,⟨zco,false,[],ts,b⟩⟩:U),r3)) else none)=none:=by
 cases hc:wd zfm r with
 | false=>rw[zep hc];simp only;rw[hm];rfl
 | true=>unfold zf5 at h;rw[if_pos hc] at h;rw[zie hc h]
theorem znn {ex:X} (hx:Light ex) (hs:zcz ex) {cs:List C} {r r1:R} {c:C} (h:zf5 ex r=some (c,r1)):zbk ex cs r=zbk ex (cs++[c]) r1/\r1.length<r.length:=by
 unfold zf5 at h
 split at h
 ·rename_i hc
  have h1:=(zf2 hx hs h).1;have h2:=zrk hc;exact ⟨zi1 hx hs hc h,by omega⟩
 ·cases h
theorem zi6 (ms:List C) (m:C):zbj (ms++[m])=zbj ms++zcx m:=by
 induction ms with
 | nil=>simp[zbj]
 | cons x xs ih=>rw[List.cons_append,zbj,zbj,ih,List.append_assoc]
theorem zv8 {w:World} {ds:List D} {c:C} (h:zaa ds=zcx c) (hg:Data.zb2 w ds):∃ a2 n2 c2 a3 n3 c3,Data.vals ds=[.string c.name,.string c.parent,.slice a2 n2 c2,.slice a3 n3 c3]:=by obtain ⟨t2,t3,v2,v3,d3,rfl,-⟩:=Data.zjz h;obtain ⟨a2,n2,c2,rfl⟩:=Data.zbd (Data.zam.1 hg (.row t2 1 v2 (strs c.fields)) (by simp));obtain ⟨a3,n3,c3,rfl⟩:=Data.zbd (Data.zam.1 hg (.row t3 5 v3 d3) (by simp));exact ⟨a2,n2,c2,a3,n3,c3,rfl⟩
theorem zxp (cv v2 vt vk:Value) (ds:List D) (cs:List C) (ts:List ByteArray) (ks:List Placed.T) (h:zaa ds=zbj cs):zaa [.row 75 4 cv ds,.str zco,.bool false,.row 9 1 v2 (strs []),.row 9 1 vt (strs ts),.row 25 5 vk (zhe ks)]=zde ⟨cs,⟨zco,false,[],ts,Placed.zg2 ks⟩⟩:=by
 have h2:=zk4 zco false v2 vt vk [] ts ks;show Data.erase _::zaa _=_
 rw[h2,Data.erase,h];rfl
theorem zsf {n:Nat} {P:Cst} {p:Nat} {w:World} (h:IS P p w) (hn:P.toks.length<n):
  Calls Tryz.prog 59 #[.pointer (some ⟨P.pb,0,none⟩)] w (yer P w (Gram.unit (expr n) (rest P p))):=by
 obtain ⟨i0,hi,hz0,hz1,hz2⟩:=info_parts ydw;have hb0:Below w.heap.size w (w.alloc (.cells #[.slice none 0 0,.string ⟨#[]⟩,.bool false,.slice none 0 0,.slice none 0 0,.slice none 0 0] 43)):=(zB _ _).alloc (zL _) _;have hw0:(w.alloc (.cells #[.slice none 0 0,.string ⟨#[]⟩,.bool false,.slice none 0 0,.slice none 0 0,.slice none 0 0] 43)).heap.size=w.heap.size+1:=by simp
 have hb1:Below (w.alloc (.cells #[.slice none 0 0,.string ⟨#[]⟩,.bool false,.slice none 0 0,.slice none 0 0,.slice none 0 0] 43)).heap.size (w.alloc (.cells #[.slice none 0 0,.string ⟨#[]⟩,.bool false,.slice none 0 0,.slice none 0 0,.slice none 0 0] 43)) ((w.alloc (.cells #[.slice none 0 0,.string ⟨#[]⟩,.bool false,.slice none 0 0,.slice none 0 0,.slice none 0 0] 43)).alloc (.cells #[.slice none 0 0,.string zco,.bool false,.slice none 0 0,.slice none 0 0,.slice none 0 0] 43)):=(zB _ _).alloc (zL _) _
 have hz:=zae w (uD ⟨#[]⟩ (.slice none 0 0) (.slice none 0 0) (.slice none 0 0)) 43;have hcu:=zae (w.alloc (.cells #[.slice none 0 0,.string ⟨#[]⟩,.bool false,.slice none 0 0,.slice none 0 0,.slice none 0 0] 43)) (uD zco (.slice none 0 0) (.slice none 0 0) (.slice none 0 0)) 43;have hcf:∀ o,((w.alloc (.cells #[.slice none 0 0,.string ⟨#[]⟩,.bool false,.slice none 0 0,.slice none 0 0,.slice none 0 0] 43)).alloc (.cells #[.slice none 0 0,.string zco,.bool false,.slice none 0 0,.slice none 0 0,.slice none 0 0] 43)).frozen? ⟨(w.alloc (.cells #[.slice none 0 0,.string ⟨#[]⟩,.bool false,.slice none 0 0,.slice none 0 0,.slice none 0 0] 43)).heap.size,o,none⟩=false:=fun o=>by go_simp
 have hzf:∀ o,((w.alloc (.cells #[.slice none 0 0,.string ⟨#[]⟩,.bool false,.slice none 0 0,.slice none 0 0,.slice none 0 0] 43)).alloc (.cells #[.slice none 0 0,.string zco,.bool false,.slice none 0 0,.slice none 0 0,.slice none 0 0] 43)).frozen? ⟨w.heap.size,o,none⟩=false:=fun o=>by go_simp
 rw[hw0] at hcu hcf
 have HU0:Hid (UnS P w (w.heap.size+1) (.slice none 0 0) p ((w.alloc (.cells #[.slice none 0 0,.string ⟨#[]⟩,.bool false,.slice none 0 0,.slice none 0 0,.slice none 0 0] 43)).alloc (.cells #[.slice none 0 0,.string zco,.bool false,.slice none 0 0,.slice none 0 0,.slice none 0 0] 43))):=
  zH ⟨hz.step hb1,hzf,hcu,hcf,Nat.lt_succ_self _,(h.below hb0).below hb1,((za2.refl P w).below hb0).below hb1,h.lo⟩
 have HLO:=zH h.lo;have hpbl:=h.size;have h8:=h.fit.fit.len;have KS1:=fun (w1:World) (q:Nat) (h1:IS P q w1) hb=>zH (zn1 h1 (s:=zco) hb)
 have KS0:=fun (w1:World) (q:Nat) (h1:IS P q w1) hb=>zH (zrm h1 (s:=zco) hb)
 have KM:=zH (fun (w1:World) (q:Nat) (h1:IS P q w1)=>zo1 (n:=n) h1 hn)
 have KB:=zH (fun (mb:Nat) (ds:List D) (w1:World) (q:Nat) (h1:IS P q w1) (hc:Cells mb ds w1) (hf:∀ o,w1.frozen? ⟨mb,o,none⟩=false) (hl:Lo P mb) (hm:1+4<ds.length)=>zlb (n:=n) h1 hn hc hf hl hm)
 have HLT:=zH (zd4 n);have HSH:=zH (zau n);generalize hG:Gram.unit (expr n) (rest P p)=G;have HG:=zH (hG.symm.trans ya1);clear hG h hb0 hb1 hz hcu hcf hzf hw0;generalize hpb:P.pb=pb at *;have HPB:=zH hpb;clear hpb;generalize hN:P.toks.length=N at *;have HN:=zH hN;clear hN;go_enter Tryz.func59,Tryz.ntmps59;go_wp2_with fail
 go_loopw [] (fun wr=>∃ (cs:List C) (ds:List D) (cv:Value) (q:Nat),cs.length<=q/\UnS P w (w.heap.size+1) cv q wr/\Data.Row (w.heap.size+2) wr 75 4 cv ds/\zaa ds=zbj cs/\zbk (expr n) [] (rest P p)=zbk (expr n) cs (rest P q)) (fun wr=>lft pb wr)
 case atStart=>exact ⟨[],[],_,p,Nat.zero_le _,HU0.out,Data.Row.nil _ _ _ _ (by decide),rfl,rfl⟩
 case round=>
  clear HU0;obtain ⟨cs,ds,cv,q,hlen,hun,hrow,hds,hgo⟩:=hrel
  have hdl:ds.length=cs.length*4:=by have:=congrArg List.length hds;rw[Data.za0,Data.zid] at this;exact this
  obtain ⟨ra,rc,rfl⟩:=hrow.form hdl;have HC:=zH hun;have HR:=zH hrow;have HDS:=zH hds;have HGO:=zH hgo;have hqN:=hun.is.le;rw[HN.out] at hqN;have hpl2:=hun.is.lft;rw[HPB.out,HN.out] at hpl2;have hpl3:=zH hpl2;have KY:=fun hb=>KS1 wr q hun.is hb
  have KN:=fun hb=>KS0 wr q hun.is hb
  clear hun hrow hds hgo hpl2;cases hb:wd zco (rest P q) with
  | true=>
   have K:=KY hb
   have HGG:Hid (G=match zrz (expr n) (rest P (q+1)) with|none=>none|some (ts,b,r3)=>some (⟨cs,⟨zco,false,[],ts,b⟩⟩,r3)):=zH (by rw[HG.out,HGO.out,zep (z0i hb)];simp only;rw[if_pos hb,zab])
   clear hb KY KN KS1 KS0 KM;go_wp2_with fail
   refine K.out.mono ?_;rintro e w7 ⟨rfl,h7,ht7⟩;have hc7:=HC.out.go ht7 h7;have HC7:=zH hc7;have HR7:=zH (HR.out.exc (Data.zb4 ht7 [P.pb] (by simp)) (fun x hx=>by simp at hx;rw[HPB.out] at hx;omega))
   have KB7:=zH (KB.out (w.heap.size+1) _ w7 (q+1) h7 hc7.c hc7.cf (HLO.out.le (by omega)) (by show 1+4<6;decide));have HS7:Hid (w.heap.size+2<=w7.heap.size):=zH (by have:=hc7.c.1;omega);clear h7 ht7 hc7 K HC HR KB;go_wp2_with fail
   refine KB7.out.mono ?_;rintro e w8 (⟨ts,ks,vt,vk,q8,rfl,hc8,hf8,ho8,h8',hx8,hg8⟩|⟨⟨v,rfl⟩,hx8,hg8⟩)
   case inr=>
    have HT8:=zH (Data.zeq HC7.out.turn hx8 (zkd (Nat.le_succ _)));have HG8:Hid (G=none):=zH (by rw[HGG.out,hg8]);clear hx8 hg8 KB7;go_wp2_with fail
    exact ⟨rfl,.inr ⟨⟨_,rfl⟩,HT8.out,HG8.out⟩⟩
   obtain ⟨ta,tn,tc,rfl⟩:=Data.zbd (Data.zam.1 ho8.good (.row 9 1 vt (strs ts)) (by simp));obtain ⟨ka,kn,kc,rfl⟩:=Data.zbd (Data.zam.1 ho8.good (.row 25 5 vk (zhe ks)) (by simp));have HT8:=zH (Data.zeq HC7.out.turn hx8 (zkd (Nat.le_succ _)));have HG8:Hid (G=some (⟨cs,⟨zco,false,[],ts,Placed.zg2 ks⟩⟩,rest P q8)):=zH (by rw[HGG.out,hg8]);have m0:=hc8.at 0 (.row 0 4 (.slice ra cs.length rc) []) rfl
   have m1:=hc8.at 1 (.str zco) rfl;have m2:=hc8.at 2 (.bool false) rfl;have m3:=hc8.at 3 (.row 0 1 (.slice none 0 0) []) rfl;have m4:=hc8.at 4 (.row 0 1 (.slice ta tn tc) []) rfl;have m5:=hc8.at 5 (.row 0 5 (.slice ka kn kc) []) rfl;simp only[val] at m0 m1 m2 m3 m4 m5;have hnb:w.heap.size∉[P.pb,w.heap.size+1]:=by simp;rw[HPB.out];omega
   have hz8:=hx8.cells HC7.out.z hnb;have fz:=zc4 HC7.out.zf HC7.out.z.1 hx8 hnb;have z0:=hz8.at 0 (.row 0 4 (.slice none 0 0) []) rfl;have z1:=hz8.at 1 (.str ⟨#[]⟩) rfl;have z2:=hz8.at 2 (.bool false) rfl;have z3:=hz8.at 3 (.row 0 1 (.slice none 0 0) []) rfl;have z4:=hz8.at 4 (.row 0 1 (.slice none 0 0) []) rfl;have z5:=hz8.at 5 (.row 0 5 (.slice none 0 0) []) rfl;simp only[val] at z0 z1 z2 z3 z4 z5
   have ho3:Data.Own w7.heap.size w8 [.row 9 1 (.slice none 0 0) (strs []),.row 9 1 (.slice ta tn tc) (strs ts),.row 25 5 (.slice ka kn kc) (zhe ks)]:=
    Data.Own.append (a:=[.row 9 1 (.slice none 0 0) (strs [])]) (Data.row_iff.2 (Data.Row.nil _ _ _ _ (by decide))) ho8 (fun x hx=>nomatch (show x∈([]:List Nat) from hx))
   have ho5:=zob (sel:=zco) (cls:=false) (by unfold maxLen;decide) ho3
   have HO8:Hid (Data.Own (w.heap.size+1) w8 [.row 75 4 (.slice ra cs.length rc) ds,.str zco,.bool false,.row 9 1 (.slice none 0 0) (strs []),.row 9 1 (.slice ta tn tc) (strs ts),.row 25 5 (.slice ka kn kc) (zhe ks)]):=zH (((Data.row_iff.2 HR7.out).z9l hx8 (fun x hx hxF=>by have h1:=(Data.row_iff.2 HR7.out).lo x hx;simp at hxF;rw[HPB.out] at hxF;omega) ho5 HS7.out).mono (Nat.le_succ _))
   have HI8:=zH h8';clear hc8 hf8 ho8 ho3 ho5 h8' hx8 hg8 hz8 hnb KB7 HR7 HC7 HGG;go_wp2_with fail
   have hbf:=Data.zbl (zL w.heap.size) [.slice ra cs.length rc,.string zco,.bool false,.slice none 0 0,.slice ta tn tc,.slice ka kn kc] w8 w8 0 (zB _ _);refine bodyPost_ret (v:=.agg #[.slice ra cs.length rc,.string zco,.bool false,.slice none 0 0,.slice ta tn tc,.slice ka kn kc]) (by simp[results,Tryz.results59,go_sem, *]) rfl ?_;exact .inl ⟨_,_,q8,rfl,zxp (.slice ra cs.length rc) (.slice none 0 0) (.slice ta tn tc) (.slice ka kn kc) ds cs ts ks HDS.out,(Data.Own.zno (Nat.lt_succ_self _) [.slice ra cs.length rc,.string zco,.bool false,.slice none 0 0,.slice ta tn tc,.slice ka kn kc] w8 0 HO8.out).mono (Nat.le_succ _),HI8.out.low hbf HLO.out,HT8.out.low hbf,HG8.out⟩
  | false=>
   have K:=KN hb;have HE:=zH hb;clear hb KY KN;go_wp2_with fail
   refine K.out.mono ?_;rintro e w7 ⟨rfl,hb7⟩;have HC7:=zH (HC.out.below hb7);have HR7:=zH (HR.out.below hb7);have f3:=HC7.out.c.at 0 (.row 0 4 (.slice ra cs.length rc) []) rfl;simp only[val] at f3;have fz3:=HC7.out.cf 0;have hs7:=HC7.out.c.1;have g3:∀ k,(w7.drewN k).cell? ⟨w.heap.size+1,0,none⟩=some (.slice ra cs.length rc):=fun k=>cell_keep (zas w7 k) f3
   have gz3:∀ k,(w7.drewN k).frozen? ⟨w.heap.size+1,0,none⟩=false:=fun k=>((zas w7 k).frozen (p:=⟨w.heap.size+1,0,none⟩) hs7).trans fz3
   have KM7:=fun k=>zH (KM.out (w7.drewN k) q (HC7.out.is.below (zas w7 k)))
   clear hb7 K HC HR;go_wp2_with fail
   cases hbn:zf5 (expr n) (rest P q) with
   | none=>
    rw[hbn] at KM7
    have KB7:=fun k=>zH ((KM7 k).out.mono (R':=fun e w'=>zsr e/\za2 P (w7.drewN k) w') (by
     rintro e w' (⟨ds,m,q,-,-,-,-,-,h⟩|⟨h1,h2,-⟩)
     ·cases h
     ·exact ⟨h1,h2⟩))
    have HG2:Hid (G=none):=zH (by rw[HG.out,HGO.out];exact zs4 HE.out hbn);clear hbn KM7;refine wp_region_any (by kernel_rfl) ?_
    try (change wpAny _ _ _ _ _ _ _ (World.drew _))
    refine wpAny_take (i:=0) (v:=?_) rfl (by kernel_rfl) (by kernel_rfl) (by kernel_rfl) (fun _ _ _ h=>h) (Or.inl ⟨by rfl,?_⟩) ?_
    rotate_left
    ·intro w
     go_simp
     try with_reducible rfl
    refine wpAny_take (i:=2) (v:=?_) rfl (by kernel_rfl) (by kernel_rfl) (by kernel_rfl) (fun _ _ _ h=>h) (Or.inl ⟨by rfl,?_⟩) ?_
    rotate_left
    ·intro w
     go_simp
     try with_reducible rfl
    refine wpAny_ready (rs:=[1,3]) (by kernel_rfl) (by simp) ?_;refine AllReady.cons rfl (fun K hK=>?_) ?_
    ·go_simp
     refine hK _ _ ?_;clear hK K;refine wpAny_ready (rs:=[3]) (by kernel_rfl) (by simp) ?_;refine AllReady.cons rfl (fun K hK=>?_) AllReady.nil
     go_simp
     refine (KB7 _).out.mono ?_;rintro e w8 ⟨⟨v,rfl⟩,ht8⟩;have HT8:=zH (HC7.out.turn.trans (((za2.refl P w7).below (zas w7 _)).trans ht8));clear ht8;exact ⟨rfl,.inr ⟨⟨_,rfl⟩,HT8.out,HG2.out⟩⟩
    ·refine AllReady.cons rfl (fun K hK=>?_) AllReady.nil
     go_simp
     refine (KB7 _).out.mono ?_;rintro e w8 ⟨⟨v,rfl⟩,ht8⟩;have HT8:=zH (HC7.out.turn.trans (((za2.refl P w7).below (zas w7 _)).trans ht8));clear ht8;exact ⟨rfl,.inr ⟨⟨_,rfl⟩,HT8.out,HG2.out⟩⟩
   | some y=>
    obtain ⟨c,r1⟩:=y;rw[hbn] at KM7
    have KB7:=fun k=>zH ((KM7 k).out.mono (R':=fun e w'=>∃ es q8,e=.returned (Data.agg es)/\zaa es=zcx c/\Data.Own w7.heap.size w' es/\IS P q8 w'/\za2 P (w7.drewN k) w'/\r1=rest P q8) (by
     rintro e w' (⟨es,m',q8,h1,h2,h3,h4,h5,h6⟩|⟨-,-,h6⟩)
     ·cases h6
      exact ⟨es,q8,h1,h2,h3,h4,h5,rfl⟩
     ·cases h6))
    have HRL:=zH (fun b hb=>((HR7.out.lt b hb).2:b<w7.heap.size))
    have HML:Hid (r1.length<(rest P q).length):=zH (znn HLT.out HSH.out (cs:=cs) hbn).2;have HKG:Hid (zbk (expr n) [] (rest P p)=zbk (expr n) (cs++[c]) r1):=zH (by rw[HGO.out];exact (znn HLT.out HSH.out hbn).1)
    clear hbn KM7
    go_region_law
     (first
     | (
      rw[if_pos (by rfl)];unfold Oper.wp
      go_simp
      refine (KB7 _).out.mono ?_;rintro e w8 ⟨es,q8,rfl,he8,ho8,h8i,ht8,hr8⟩;obtain ⟨x2,n2,k2,x3,n3,k3,hv8⟩:=zv8 he8 ho8.good;rw[show Data.agg es=.agg #[.string c.name,.string c.parent,.slice x2 n2 k2,.slice x3 n3 k3] by unfold Data.agg;rw[hv8]]
      have htd:=((za2.refl P w7).below (zas w7 _)).trans ht8;have HC8:=zH (HC7.out.go htd h8i);have HR8:=zH (HR7.out.exc (Data.zb4 htd [P.pb] (by simp)) (fun x hx=>by simp at hx;rw[HPB.out] at hx;omega))
      have HO8:=zH ho8;have HE8:=zH he8;have HV8:=zH hv8;have HRR:=zH hr8;have e4:=HC8.out.c.at 0 (.row 0 4 (.slice ra cs.length rc) []) rfl;have e5:=HC8.out.cf 0;simp only[val] at e4;have hsf:=HC8.out.c.1;have a4:∀ o,(w8.alloc o).cell? ⟨w.heap.size+1,0,none⟩=some (.slice ra cs.length rc):=fun o=>cell_keep ((zB _ _).alloc (zL _) o) e4
      have a5:∀ o,(w8.alloc o).frozen? ⟨w.heap.size+1,0,none⟩=false:=fun o=>(((zB w8.heap.size w8).alloc (zL _) o).frozen (p:=⟨w.heap.size+1,0,none⟩) hsf).trans e5
      have a6:∀ o,(w8.alloc o).drew.cell? ⟨w.heap.size+1,0,none⟩=some (.slice ra cs.length rc):=fun o=>a4 o
      have a7:∀ o,(w8.alloc o).drew.frozen? ⟨w.heap.size+1,0,none⟩=false:=fun o=>a5 o
      have hsp:w.heap.size+2<=w8.heap.size:=by omega
      clear he8 ho8 h8i ht8 htd hv8 hr8)
     | (
      refine step_append_lies _ (by rfl) _ _ _ (by rfl) (w.heap.size+2) 75 i0 (.agg #[.string ByteArray.empty,.string ByteArray.empty,.slice none 0 0,.slice none 0 0]) 4 80 Tryz.underlying39 hi hz0 hz1 hz2 rfl (by decide) _ cs.length (Data.vals ds) (by rfl) (own_keep (HR8.out.zu5 hdl) (by first|exact (zB _ _).alloc (zL _) _|exact ((zB _ _).alloc (zL _) _).drew|exact ((zB _ _).drew).alloc (zL _) _))
       ⟨w8.heap.size,0,none⟩ 1 1 [.string c.name,.string c.parent,.slice x2 n2 k2,.slice x3 n3 k3] (by rfl) (by rfl) (World.news_of_block (cs:=#[.string c.name,.string c.parent,.slice x2 n2 k2,.slice x3 n3 k3]) (t:=75) (fr:=(0,0)) (heap_alloc_new w8 _)) (by intro u hu;simp at hu;rcases hu with rfl|rfl|rfl|rfl<;>rfl)
       (by omega) (by unfold maxLen;omega) (by omega) (by simp;omega) (w8.heap.size+1) (by simp) ?_
      intro g cap w9 hown hgrow hat hlt;have hbw:Below (w.heap.size+2) w8 w9:=zdy (base:=w.heap.size+2) hsp (HR8.out.zu5 hdl) hgrow;have hc9:=HC8.out.low hbw;have m4:=hc9.c.at 0 (.row 0 4 (.slice ra cs.length rc) []) rfl;simp only[val] at m4;have m5:=hc9.cf 0))
    all_goals
     have HROW:=zH (HR8.out.app (o:=.cells #[.string c.name,.string c.parent,.slice x2 n2 k2,.slice x3 n3 k3] 75) (x:=es) (n:=cs.length) hdl HO8.out (by rw[<-Data.zfj,HV8.out];rfl) (by omega) HRL.out (by rw[HV8.out];exact hown) hgrow (by
      rcases hat with e|e
      ·exact .inl e.symm
      ·exact .inr (by rw[e];rfl)))
     have HC9:=zH (hc9.classes (.slice (some ⟨g,0,none⟩) (cs.length+1) cap));have HR9:Hid (Data.Row (w.heap.size+2) (w9.setCell ⟨w.heap.size+1,0,none⟩ (.slice (some ⟨g,0,none⟩) (cs.length+1) cap)) 75 4 (.slice (some ⟨g,0,none⟩) (cs.length+1) cap) (ds++es)):=zH (Data.row_iff.1 ((Data.row_iff.2 HROW.out).zyw (Nat.lt_succ_self _) 0 _));have HNE:Hid (zaa (ds++es)=zbj (cs++[c])):=zH (by rw[Data.zao,HDS.out,HE8.out,zi6])
     clear hown hgrow hat hbw hc9 m4 m5 KB7 e4 e5 a4 a5 a6 a7 g3 gz3 f3 fz3 HROW HR8 HO8 HV8 HE8;go_wp2_with fail
     go_roundw
     case rel=>have h1:=HML.out;rw[HRR.out,zaf,zaf,HN.out] at h1;have h2:=HC9.out.is.le;rw[HN.out] at h2;exact ⟨cs++[c],ds++es,_,q8,by simp;omega,by simpa using HC9.out,by simpa using HR9.out,HNE.out,by rw[HKG.out,HRR.out]⟩
     case measure=>have h1:=HML.out;rw[HRR.out,zaf,zaf,HN.out] at h1;have h3:=HC9.out.is.lft;rw[HPB.out,HN.out] at h3;rw[h3,hpl3.out];omega
end Go.Proofs.YtlmhgeanknhcfaaGreatDoor.ParI
namespace Go.Proofs.YtlmhgeanknhcfaaGreatDoor
namespace ParI
open Go.RowKit
open Strs Tree Gram Errs
open Go.Proofs.YtlmhgeanknhcfaaGreatDoor.Parser
open Go.Proofs.YtlmhgeanknhcfaaGreatDoor.Data (D Cells Exc zaa strs zhe zbc za8 zcx zbj zde zay M C U val zae)
def gU (N:Nat) (r:R):Option (U×R):=Gram.unit (expr (N+1)) r
theorem yev (s:ByteArray):zgn gU s=SpecParse.zdl s:=by
 unfold zgn SpecParse.zdl gU;cases Tok.tokens s with
 | none=>rfl
 | some ts=>
  simp only;cases Gram.unit (expr (ts.length+1)) ts with
  | none=>rfl
  | some y=>
   obtain ⟨m,r⟩:=y;cases r with
   | nil=>rfl
   | cons a b=>rfl
theorem zqu {w:World} {ds:List D} {u:U} (h:zaa ds=zde u) (hg:Data.zb2 w ds):∃ x0 n0 k0 x2 n2 k2 x3 n3 k3 x4 n4 k4,Data.vals ds=[.slice x0 n0 k0,.string u.main.sel,.bool u.main.cls,.slice x2 n2 k2,.slice x3 n3 k3,.slice x4 n4 k4]:=by obtain ⟨t0,v0,d0,ms,rfl,h0,h1⟩:=Data.zo7 h;obtain ⟨x0,n0,k0,rfl⟩:=Data.zbd (Data.zam.1 hg (.row t0 4 v0 d0) (by simp));rw[Data.zb2] at hg;obtain ⟨x2,n2,k2,x3,n3,k3,x4,n4,k4,hv⟩:=zj6 h1 hg.2;exact ⟨x0,n0,k0,x2,n2,k2,x3,n3,k3,x4,n4,k4,by show val _::Data.vals ms=_;rw[hv];rfl⟩
theorem ybo {P:Cst} {w:World} {eb:Nat} (h:IS P 0 w) (hz:Cells eb (uD ⟨#[]⟩ (.slice none 0 0) (.slice none 0 0) (.slice none 0 0)) w) (hzf:∀ o,w.frozen? ⟨eb,o,none⟩=false) (hne:eb<P.pb):
  Calls Tryz.prog 58 #[.pointer (some ⟨P.pb,0,none⟩),.pointer (some ⟨eb,0,none⟩)] w (z9d zde gU P eb w):=by
 have KX:=zH (zsf (n:=P.toks.length+1) h (Nat.lt_succ_self _));have HZ:=zH hz;have HZF:=zH hzf;have HG:Hid (gU P.toks.length (rest P 0)=Gram.unit (expr (P.toks.length+1)) (rest P 0)):=zH rfl;clear h hz hzf;generalize hpb:P.pb=pb at *;have HPB:=zH hpb;clear hpb;generalize Gram.unit (expr (P.toks.length+1)) (rest P 0)=G at *;go_enter Tryz.func58,Tryz.ntmps58;go_wp2_with fail
 refine KX.out.mono ?_;rintro e w1 (⟨ds,u,q,rfl,he,ho,hi,ht,hg⟩|⟨⟨v,rfl⟩,ht,hg⟩)
 case inr=>
  have HGG:=zH hg;have HT:=zH (Data.zb4 ht [P.pb,eb] (by simp));clear hg ht KX;go_wp2_with fail
  exact ⟨rfl,.inr ⟨⟨_,rfl⟩,HT.out,by rw[HG.out,HGG.out]⟩⟩
 obtain ⟨x0,n0,k0,x2,n2,k2,x3,n3,k3,x4,n4,k4,hv⟩:=zqu he ho.good;have hx:=Data.zb4 ht [P.pb] (by simp);have hnb:eb∉[P.pb]:=by simp;rw[HPB.out];omega
 have hz1:=hx.cells HZ.out hnb;have fz:=zc4 HZF.out HZ.out.1 hx hnb;have z0:=hz1.at 0 (.row 0 4 (.slice none 0 0) []) rfl;have z1:=hz1.at 1 (.str ⟨#[]⟩) rfl;have z2:=hz1.at 2 (.bool false) rfl;have z3:=hz1.at 3 (.row 0 1 (.slice none 0 0) []) rfl;have z4:=hz1.at 4 (.row 0 1 (.slice none 0 0) []) rfl;have z5:=hz1.at 5 (.row 0 5 (.slice none 0 0) []) rfl;simp only[val] at z0 z1 z2 z3 z4 z5;rw[show Data.agg ds=.agg #[.slice x0 n0 k0,.string u.main.sel,.bool u.main.cls,.slice x2 n2 k2,.slice x3 n3 k3,.slice x4 n4 k4] by unfold Data.agg;rw[hv]]
 have HX:=zH (Data.zb4 ht [P.pb,eb] (by simp));have HO:=zH ho;have HI:=zH hi;have HE:=zH he;have HGG:=zH hg;have HV:=zH hv;have HZ1:=zH hz1;clear ho hi ht hg he hv hx hnb hz1 KX;go_wp2_with fail
 go_end0
 have hce:=zq8 ds [] (uD ⟨#[]⟩ (.slice none 0 0) (.slice none 0 0) (.slice none 0 0)) w1 HZ1.out (by have e:=Data.zfj ds;rw[HV.out] at e;exact e) fz;rw[HV.out] at hce;obtain ⟨ca,cc,hcell⟩:=HI.out.cell;exact .inl ⟨u,ds,q,rfl,HE.out,Data.Own.zno HZ.out.1 [.slice x0 n0 k0,.string u.main.sel,.bool u.main.cls,.slice x2 n2 k2,.slice x3 n3 k3,.slice x4 n4 k4] w1 0 HO.out,hce,⟨HI.out.le,ca,cc,(World.cell?_of_block (a:=⟨P.pb,0,none⟩) (zu4 (x:=P.pb) (by rw[HPB.out];omega) [.slice x0 n0 k0,.string u.main.sel,.bool u.main.cls,.slice x2 n2 k2,.slice x3 n3 k3,.slice x4 n4 k4] w1 0)).trans hcell⟩,zy3 HX.out (by simp) [.slice x0 n0 k0,.string u.main.sel,.bool u.main.cls,.slice x2 n2 k2,.slice x3 n3 k3,.slice x4 n4 k4] 0,by rw[HG.out,HGG.out]⟩
theorem ydf (s:ByteArray) (w:World) (hM:Max w) {a:Addr} (he:Err w a):
  Calls Tryz.prog 23 #[.string s] w fun r w'=>∃ es,r=.returned (.tuple #[Data.agg es,.bool (SpecParse.zee s).isSome])/\zaa es=zde ((SpecParse.zee s).getD SpecParse.zvx)/\Data.Own w.heap.size w' es/\Below w.heap.size w w':=by
 have hmf:∀ (fn:Fn) (first cap:Array Value) (w:World),(Instr.makeFunc fn first cap).run Tryz.prog w=.ok (.func fn first cap) w:=fun _ _ _ _=>rfl
 have hb0:Below w.heap.size w (w.alloc (.cells #[.slice none 0 0,.string ⟨#[]⟩,.bool false,.slice none 0 0,.slice none 0 0,.slice none 0 0] 43)):=(zB _ _).alloc (zL _) _;have hw0:(w.alloc (.cells #[.slice none 0 0,.string ⟨#[]⟩,.bool false,.slice none 0 0,.slice none 0 0,.slice none 0 0] 43)).heap.size=w.heap.size+1:=by simp
 have hb1:Below (w.alloc (.cells #[.slice none 0 0,.string ⟨#[]⟩,.bool false,.slice none 0 0,.slice none 0 0,.slice none 0 0] 43)).heap.size (w.alloc (.cells #[.slice none 0 0,.string ⟨#[]⟩,.bool false,.slice none 0 0,.slice none 0 0,.slice none 0 0] 43)) ((w.alloc (.cells #[.slice none 0 0,.string ⟨#[]⟩,.bool false,.slice none 0 0,.slice none 0 0,.slice none 0 0] 43)).alloc (.cells #[.slice none 0 0,.string ⟨#[]⟩,.bool false,.slice none 0 0,.slice none 0 0,.slice none 0 0] 43)):=(zB _ _).alloc (zL _) _
 have hb2:=hb0.trans (hb1.mono hb0.size);have hz:=(zae w (uD ⟨#[]⟩ (.slice none 0 0) (.slice none 0 0) (.slice none 0 0)) 43).step hb1;have hzf:∀ o,((w.alloc (.cells #[.slice none 0 0,.string ⟨#[]⟩,.bool false,.slice none 0 0,.slice none 0 0,.slice none 0 0] 43)).alloc (.cells #[.slice none 0 0,.string ⟨#[]⟩,.bool false,.slice none 0 0,.slice none 0 0,.slice none 0 0] 43)).frozen? ⟨w.heap.size,o,none⟩=false:=fun o=>by go_simp
 have hze:=zae (w.alloc (.cells #[.slice none 0 0,.string ⟨#[]⟩,.bool false,.slice none 0 0,.slice none 0 0,.slice none 0 0] 43)) (uD ⟨#[]⟩ (.slice none 0 0) (.slice none 0 0) (.slice none 0 0)) 43;have hzef:∀ o,((w.alloc (.cells #[.slice none 0 0,.string ⟨#[]⟩,.bool false,.slice none 0 0,.slice none 0 0,.slice none 0 0] 43)).alloc (.cells #[.slice none 0 0,.string ⟨#[]⟩,.bool false,.slice none 0 0,.slice none 0 0,.slice none 0 0] 43)).frozen? ⟨(w.alloc (.cells #[.slice none 0 0,.string ⟨#[]⟩,.bool false,.slice none 0 0,.slice none 0 0,.slice none 0 0] 43)).heap.size,o,none⟩=false:=fun o=>by go_simp
 rw[hw0] at hze hzef;have hs2:((w.alloc (.cells #[.slice none 0 0,.string ⟨#[]⟩,.bool false,.slice none 0 0,.slice none 0 0,.slice none 0 0] 43)).alloc (.cells #[.slice none 0 0,.string ⟨#[]⟩,.bool false,.slice none 0 0,.slice none 0 0,.slice none 0 0] 43)).heap.size=w.heap.size+2:=by simp
 have KA:=z6q zde gU s _ (hM.keep hb2) hze hzef (fun P w3 h1 h2 h3 h4 _=>ybo h1 h2 h3 h4)
 unfold zjo at KA;rw[yev] at KA;replace KA:=zH KA;have HB2:=zH hb2;have HZ:=zH hz;have HZF:=zH hzf;have HS2:=zH hs2;have HER:=zH he;have HA:Hid (SpecParse.zee s=match SpecParse.zdl s with|none=>none|some m=>if Data.zf7 m=true then some m else none):=zH rfl
 have HLI:=zH (fun e h=>SpecParse.zgk (s:=s) (u:=e) h)
 clear hM hb0 hw0 hb1 hb2 hz hzf hze hzef hs2 he;generalize SpecParse.zee s=A at *;go_enter Tryz.func23,Tryz.ntmps23;go_wp2_with fail
 refine KA.out.mono ?_;rintro e w3 ⟨rfl,hgr,hval⟩;have ht:za2 ⟨w.heap.size+1,none,0,[]⟩ ((w.alloc (.cells #[.slice none 0 0,.string ⟨#[]⟩,.bool false,.slice none 0 0,.slice none 0 0,.slice none 0 0] 43)).alloc (.cells #[.slice none 0 0,.string ⟨#[]⟩,.bool false,.slice none 0 0,.slice none 0 0,.slice none 0 0] 43)) w3:=hgr;have hs3:=ht.size;rw[HS2.out] at hs3;have HZ3:=zH (Cells.turn HZ.out ht (by simp))
 have HZF3:=zH (zc0 HZF.out HZ.out.1 ht (by simp));have HB3:=zH (zhz HB2.out ht (by simp) HB2.out.size);have HER3:=zH (HER.out.keep HB3.out);rw[HS2.out] at hval;clear ht hgr KA HB2 HZ HZF HER;cases hsrc:SpecParse.zdl s with
 | none=>
  have HA2:Hid (A=none):=zH (by rw[HA.out,hsrc]);have fz:=HZF3.out;have y0:=HZ3.out.at 0 (.row 0 4 (.slice none 0 0) []) rfl;have y1:=HZ3.out.at 1 (.str ⟨#[]⟩) rfl;have y2:=HZ3.out.at 2 (.bool false) rfl;have y3:=HZ3.out.at 3 (.row 0 1 (.slice none 0 0) []) rfl;have y4:=HZ3.out.at 4 (.row 0 1 (.slice none 0 0) []) rfl;have y5:=HZ3.out.at 5 (.row 0 5 (.slice none 0 0) []) rfl;simp only[val] at y0 y1 y2 y3 y4 y5
  have e1:(none:Option U).isSome=false:=rfl;clear hsrc hval HA HLI HS2;go_wp2_with fail
  have hb9:=Data.zbl (zL w.heap.size) [.slice none 0 0,.string ⟨#[]⟩,.bool false,.slice none 0 0,.slice none 0 0,.slice none 0 0] w3 w3 0 (zB _ _);refine bodyPost_ret (v:=.tuple #[.agg #[.slice none 0 0,.string ⟨#[]⟩,.bool false,.slice none 0 0,.slice none 0 0,.slice none 0 0],.bool false]) (by simp[results,Tryz.results23,go_sem, *]) rfl ?_;exact ⟨[.row 75 4 (.slice none 0 0) [],.str ⟨#[]⟩,.bool false,.row 9 1 (.slice none 0 0) (strs []),.row 9 1 (.slice none 0 0) (strs []),.row 25 5 (.slice none 0 0) (zhe [])],by rw[HA2.out];rfl,by rw[HA2.out];rfl,zs0,HB3.out.trans hb9⟩
 | some u=>
  obtain ⟨ds,hde,ho,hcl⟩:=hval u hsrc;obtain ⟨x0,n0,k0,x2,n2,k2,x3,n3,k3,x4,n4,k4,hv⟩:=zqu hde ho.good;have KI:=ImplMeth.yce hde (ho.mono (Nat.zero_le _)) (by have h1:=HLI.out u hsrc;rw[hde];omega) HER3.out;rw[show Data.agg ds=.agg #[.slice x0 n0 k0,.string u.main.sel,.bool u.main.cls,.slice x2 n2 k2,.slice x3 n3 k3,.slice x4 n4 k4] by unfold Data.agg;rw[hv]] at KI
  replace KI:=zH KI;have hcl2:Cells (w.heap.size+1) [.row 0 4 (.slice x0 n0 k0) [],.str u.main.sel,.bool u.main.cls,.row 0 1 (.slice x2 n2 k2) [],.row 0 1 (.slice x3 n3 k3) [],.row 0 5 (.slice x4 n4 k4) []] w3:=zq4 hcl hv;have HA2:Hid (A=if Data.zf7 u=true then some u else none):=zH (by rw[HA.out,hsrc])
  have e1:(some u).isSome=true:=rfl;have f0:=hcl2.at 0 (.row 0 4 (.slice x0 n0 k0) []) rfl;have f1:=hcl2.at 1 (.str u.main.sel) rfl;have f2:=hcl2.at 2 (.bool u.main.cls) rfl;have f3:=hcl2.at 3 (.row 0 1 (.slice x2 n2 k2) []) rfl;have f4:=hcl2.at 4 (.row 0 1 (.slice x3 n3 k3) []) rfl;have f5:=hcl2.at 5 (.row 0 5 (.slice x4 n4 k4) []) rfl;simp only[val] at f0 f1 f2 f3 f4 f5;have HO:=zH ho;have HDE:=zH hde
  have HV:=zH hv;have HCL:=zH hcl2;clear ho hcl hcl2 hde hv hsrc hval HA HLI HS2;generalize Data.zf7 u=b at *;cases b with
  | false=>
   rw[if_neg (by simp)] at HA2;go_wp2_with fail
   refine KI.out.mono ?_;rintro e w4 ⟨rfl,hb4⟩;have HB4:=zH (HB3.out.trans (hb4.mono HB3.out.size));have hz4:=HZ3.out.step hb4;have fz:∀ o,w4.frozen? ⟨w.heap.size,o,none⟩=false:=fun o=>(hb4.frozen (p:=⟨w.heap.size,o,none⟩) HZ3.out.1).trans (HZF3.out o)
   have y0:=hz4.at 0 (.row 0 4 (.slice none 0 0) []) rfl;have y1:=hz4.at 1 (.str ⟨#[]⟩) rfl;have y2:=hz4.at 2 (.bool false) rfl;have y3:=hz4.at 3 (.row 0 1 (.slice none 0 0) []) rfl;have y4:=hz4.at 4 (.row 0 1 (.slice none 0 0) []) rfl;have y5:=hz4.at 5 (.row 0 5 (.slice none 0 0) []) rfl;simp only[val] at y0 y1 y2 y3 y4 y5;clear hb4 KI hz4 f0 f1 f2 f3 f4 f5;go_wp2_with fail
   have hb9:=Data.zbl (zL w.heap.size) [.slice none 0 0,.string ⟨#[]⟩,.bool false,.slice none 0 0,.slice none 0 0,.slice none 0 0] w4 w4 0 (zB _ _);refine bodyPost_ret (v:=.tuple #[.agg #[.slice none 0 0,.string ⟨#[]⟩,.bool false,.slice none 0 0,.slice none 0 0,.slice none 0 0],.bool false]) (by simp[results,Tryz.results23,go_sem, *]) rfl ?_;exact ⟨[.row 75 4 (.slice none 0 0) [],.str ⟨#[]⟩,.bool false,.row 9 1 (.slice none 0 0) (strs []),.row 9 1 (.slice none 0 0) (strs []),.row 25 5 (.slice none 0 0) (zhe [])],by rw[HA2.out];rfl,by rw[HA2.out];rfl,zs0,HB4.out.trans hb9⟩
  | true=>
   rw[if_pos rfl] at HA2;go_wp2_with fail
   refine KI.out.mono ?_;rintro e w4 ⟨rfl,hb4⟩;have HB4:=zH (HB3.out.trans (hb4.mono HB3.out.size));have hz4:=HZ3.out.step hb4;have fz:∀ o,w4.frozen? ⟨w.heap.size,o,none⟩=false:=fun o=>(hb4.frozen (p:=⟨w.heap.size,o,none⟩) HZ3.out.1).trans (HZF3.out o)
   have HO4:=zH (HO.out.below hb4);have hc4:=HCL.out.step hb4;have y0:=hz4.at 0 (.row 0 4 (.slice none 0 0) []) rfl;have y1:=hz4.at 1 (.str ⟨#[]⟩) rfl;have y2:=hz4.at 2 (.bool false) rfl;have y3:=hz4.at 3 (.row 0 1 (.slice none 0 0) []) rfl;have y4:=hz4.at 4 (.row 0 1 (.slice none 0 0) []) rfl;have y5:=hz4.at 5 (.row 0 5 (.slice none 0 0) []) rfl;simp only[val] at y0 y1 y2 y3 y4 y5;have g0:=hc4.at 0 (.row 0 4 (.slice x0 n0 k0) []) rfl
   have g1:=hc4.at 1 (.str u.main.sel) rfl;have g2:=hc4.at 2 (.bool u.main.cls) rfl;have g3:=hc4.at 3 (.row 0 1 (.slice x2 n2 k2) []) rfl;have g4:=hc4.at 4 (.row 0 1 (.slice x3 n3 k3) []) rfl;have g5:=hc4.at 5 (.row 0 5 (.slice x4 n4 k4) []) rfl;simp only[val] at g0 g1 g2 g3 g4 g5;clear hb4 KI hz4 hc4 f0 f1 f2 f3 f4 f5;go_wp2_with fail
   have hb9:=Data.zbl (zL w.heap.size) [.slice x0 n0 k0,.string u.main.sel,.bool u.main.cls,.slice x2 n2 k2,.slice x3 n3 k3,.slice x4 n4 k4] w4 w4 0 (zB _ _);refine bodyPost_ret (v:=.tuple #[.agg #[.slice x0 n0 k0,.string u.main.sel,.bool u.main.cls,.slice x2 n2 k2,.slice x3 n3 k3,.slice x4 n4 k4],.bool true]) (by simp[results,Tryz.results23,go_sem, *]) rfl ?_;exact ⟨ds,by rw[HA2.out];unfold Data.agg;rw[HV.out];rfl,by rw[HA2.out];exact HDE.out,(Data.Own.zno (by omega:w.heap.size<w.heap.size+2) [.slice x0 n0 k0,.string u.main.sel,.bool u.main.cls,.slice x2 n2 k2,.slice x3 n3 k3,.slice x4 n4 k4] w4 0 HO4.out).mono (by omega),HB4.out.trans hb9⟩
end ParI
end Go.Proofs.YtlmhgeanknhcfaaGreatDoor
