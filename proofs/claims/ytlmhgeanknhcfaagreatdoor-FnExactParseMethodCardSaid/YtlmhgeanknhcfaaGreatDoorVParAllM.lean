/-
  ParAllM
-/
import Derived.Test.YtlmhgeanknhcfaaGreatDoorB16
import Derived.Test.YtlmhgeanknhcfaaGreatDoorB34
import Derived.Test.YtlmhgeanknhcfaaGreatDoorVXtParseMethod
namespace Go.Proofs.YtlmhgeanknhcfaaGreatDoor.ParI
set_option maxHeartbeats 8000000
set_option maxRecDepth 10000
open Go.RowKit
open Strs Tree Gram
open Go.Proofs.YtlmhgeanknhcfaaGreatDoor.Parser
open Go.Proofs.YtlmhgeanknhcfaaGreatDoor.Data (D Cells Exc zaa)
theorem z2c {β:Type} (pl:β->List Data.P) (g:Nat->R->Option (β×R)) (s:ByteArray) (w:World) (hM:Max w) {eb:Nat} {zs:List D} (hz:Cells eb zs w) (hzf:∀ o,w.frozen? ⟨eb,o,none⟩=false)
  (KRD:∀ (P:Cst) (w3:World),IS P 0 w3->Cells eb zs w3->(∀ o,w3.frozen? ⟨eb,o,none⟩=false)->eb<P.pb->Max w3->Calls Tryz.prog 52 #[.pointer (some ⟨P.pb,0,none⟩),.pointer (some ⟨eb,0,none⟩)] w3 (z9d pl g P eb w3)):
  Calls Tryz.prog 29 #[.string s,.func (.func 52) #[] #[.pointer (some ⟨eb,0,none⟩)]] w (zjo pl g s eb w):=by
 have hmf:∀ (fn:Fn) (first cap:Array Value) (w:World),(Instr.makeFunc fn first cap).run Tryz.prog w=.ok (.func fn first cap) w:=fun _ _ _ _=>rfl
 have hb0:Below w.heap.size w (w.alloc (.cells #[.bool false] 4)):=(zB _ _).alloc (zL _) _;have KT:=zH (ImplTokens.zfu s (w.alloc (.cells #[.bool false] 4)) (hM.keep hb0));have HOK:=zH (zv6 w false 4);have hez:=hz.1;have HZ:=zH (hz.step hb0);have HZF:=zH (fun o=>(hb0.frozen (p:=⟨eb,o,none⟩) hez).trans (hzf o))
 have HB0:=zH hb0;have HMX:=zH hM;have hw0:(w.alloc (.cells #[.bool false] 4)).heap.size=w.heap.size+1:=by simp
 have HW0:=zH hw0;have HKR:=zH KRD;clear hb0 hz hzf hM hw0 KRD
 go_enter_defers Tryz.func29,Tryz.ntmps29
 go_wp2_with fail
 refine KT.out.mono ?_;intro e w1 hread;cases hts:Tok.tokens s with
 | none=>
  rw[hts] at hread;obtain ⟨rfl,hb1⟩:=hread;have hsrc:zgn g s=none:=by unfold zgn;rw[hts]
  have HB1:=zH (HB0.out.trans (hb1.mono (by rw[HW0.out];omega)));have HSRC:=zH hsrc;obtain ⟨o1,o2,o3⟩:=HOK.out.step hb1;clear hb1 KT hts hsrc HKR;go_wp2_with fail
  refine ⟨.bool false,by simp[results,Tryz.results29,go_sem, *],?_⟩
  have hb9:Below w.heap.size w ((w1.setCell ⟨w.heap.size,0,none⟩ (.bool false)).setCell ⟨w.heap.size,0,none⟩ (.bool false)):=(HB1.out.setCell (by show w.heap.size<=w.heap.size;omega) _).setCell (by show w.heap.size<=w.heap.size;omega) _;exact ⟨by rw[HSRC.out];rfl,below_grown hb9 _,fun t0 h=>by (rw[HSRC.out] at h;cases h)⟩
 | some ts=>
  rw[hts] at hread;obtain ⟨v1,rfl,hown,hb1⟩:=hread;obtain ⟨ta,cap,rfl⟩:=Kit.za5 hown;have hroom:=SpecParse.zmb hown;have hs1:w.heap.size+1<=w1.heap.size:=by rw[<-HW0.out];exact hb1.size
  have hbase:∀ b o,ta=some ⟨b,o,none⟩->w.heap.size+1<=b/\b<w1.heap.size:=fun b o e=>by subst e;have h1:=hown.lt b rfl;rw[HW0.out] at h1;exact h1
  have hok1:=HOK.out.step hb1;obtain ⟨P,hP⟩:∃ P:Cst,P=⟨w1.heap.size,ta,cap,ts⟩:=⟨_,rfl⟩;have hpbw:P.pb=w1.heap.size:=by rw[hP]
  have hfit:yc0 P:=zrn (s:=s) (by rw[hP];exact hts) (by rw[hP];exact hroom.2.1) (by rw[hP];exact hroom.2.2);obtain ⟨w3,hw3⟩:∃ w3,w3=(w1.setCell ⟨w.heap.size,0,none⟩ (.bool true)).alloc (.cells #[.slice ta ts.length cap] 104):=⟨_,rfl⟩;have hb2:Below w.heap.size w1 (w1.setCell ⟨w.heap.size,0,none⟩ (.bool true)):=(zB _ _).setCell (by show w.heap.size<=w.heap.size;omega) _;have hsz2:(w1.setCell ⟨w.heap.size,0,none⟩ (.bool true)).heap.size=w1.heap.size:=by simp[World.setCell]
  have hba:Below (w1.setCell ⟨w.heap.size,0,none⟩ (.bool true)).heap.size (w1.setCell ⟨w.heap.size,0,none⟩ (.bool true)) w3:=by rw[hw3];exact (zB _ _).alloc (zL _) _
  have hps:IS P 0 w3:=by
   refine ⟨hfit,?_,Nat.zero_le _,?_,fun o=>?_,fun i t ht=>?_⟩
   ·rw[hpbw,hw3]
    simp
   ·refine ⟨ta,cap,?_,?_,hroom.2.2,fun hlt=>?_⟩
    ·rw[hpbw,hw3,hP]
     rw[<-hsz2]
     go_simp
    ·rw[hP];exact hroom.2.1
    ·rw[hP] at hlt
     obtain ⟨b,o,e,-⟩:=SpecParse.zgh hown 0 ts[0] (List.getElem?_eq_getElem hlt);rw[hP];exact ⟨b,o,e,by rw[e];rfl⟩
   ·rw[hpbw,hw3]
    rw[<-hsz2]
    go_simp
   ·rw[hP] at ht
    obtain ⟨b,o,e,hlt,d0,d1,d2⟩:=SpecParse.zgh hown i t ht;have h1:=hbase b o e;have hn:b≠w.heap.size:=by omega
    refine ⟨b,o,by rw[hP];exact e,by rw[hpbw];omega,cell_keep hba (Parser.other _ _ _ _ _ _ _ (.inl hn) d0),cell_keep hba (Parser.other _ _ _ _ _ _ _ (.inl hn) d1),cell_keep hba (Parser.other _ _ _ _ _ _ _ (.inl hn) d2)⟩
  have hB3:Below w.heap.size w w3:=(((HB0.out.trans (hb1.mono (by rw[HW0.out];omega))).trans hb2).trans (hba.mono (by rw[hsz2];omega)));have hz3:Cells eb zs w3:=Data.zbs (Data.zbs HZ.out (hb1.mono (by rw[HW0.out];omega)) hez) ((hb2.trans (hba.mono (by rw[hsz2];omega)))) hez;have hzf3:∀ o,w3.frozen? ⟨eb,o,none⟩=false:=Data.zb3 (Data.zb3 HZF.out (hb1.mono (by rw[HW0.out];omega)) hez) ((hb2.trans (hba.mono (by rw[hsz2];omega)))) hez
  have hok3:OkC w.heap.size true w3:=(zw4 hok1 true).step hba;have KR:=zH (HKR.out P w3 hps hz3 hzf3 (by rw[hpbw];omega) (HMX.out.keep hB3));rw[hpbw] at KR;have HSRC:Hid (zgn g s=match g P.toks.length (rest P 0) with|none=>none|some (x,r1)=>if r1.length=0 then some x else none):=zH (by unfold zgn;rw[hts,hP];rfl)
  have HPB:=zH hpbw;have HB3:=zH hB3;have HOK3:=zH hok3;have hs3:w3.heap.size=w1.heap.size+1:=by rw[hw3];simp
  have HW3:=zH hw3;have h8:=hfit.fit.len;obtain ⟨o1,o2,o3⟩:=hok1;clear hown hroom hbase hfit hb2 hsz2 hba hps hz3 hzf3 hok3 hB3 hb1 KT hts hpbw hP HZ HZF HOK HB0 hw3 HKR HMX
  go_upto_region 6 with fail
  rw[<-HW3.out];clear HW3;go_wp2_with fail
  refine KR.out.mono ?_;rintro e w4 (⟨x,ds,q,rfl,hde,ho,hcl,h,hx,hg⟩|⟨⟨v,rfl⟩,hx,hg⟩)
  case inr=>
   have hsrc:zgn g s=none:=by rw[HSRC.out,hg]
   have HSRC2:=zH hsrc;obtain ⟨o1',o2',o3'⟩:=HOK3.out.exc hx (by simp only[List.mem_cons,List.not_mem_nil,or_false,not_or];rw[HPB.out];omega);have HB4:=zH (zl2 HB3.out hx (by rw[HPB.out];omega));clear hg hx hsrc KR o1 o2 o3;go_wp2_with fail
   refine leaves_cons (f:=72) (args:=#[.pointer (some ⟨w.heap.size,0,none⟩)]) (by simp) (by simp[go_sem]) ?_;refine (zg9 ⟨w.heap.size,0,none⟩ true v [] _ o2' o3').mono ?_;rintro e u' w'' ⟨rfl,rfl,rfl⟩;refine ⟨.bool false,by simp[results,Tryz.results29,go_sem, *],?_⟩
   exact ⟨by rw[HSRC2.out];rfl,zly HB4.out (zL _) _,fun t0 h=>by (rw[HSRC2.out] at h;cases h)⟩
  have hHe:zgn g s=if (rest P q).length=0 then some x else none:=by rw[HSRC.out,hg]
  have hq:=h.1;rw[zaf] at hHe;have HSRC2:=zH hHe;have HB4:=zH (zl2 HB3.out hx (by rw[HPB.out];omega));have hok4:OkC w.heap.size true w4:=HOK3.out.exc hx (by simp only[List.mem_cons,List.not_mem_nil,or_false,not_or];rw[HPB.out];omega);obtain ⟨ca,cc,c0⟩:=h.2;rw[HPB.out] at c0;have HO4:=zH ho;have HC4:=zH hcl;have HD4:=zH hde;generalize P.toks.length-q=l at *;obtain ⟨o1',o2',o3'⟩:=hok4
  clear hg hx hHe KR o1 o2 o3 ho h hcl hde HSRC
  have hfin:∀ (b:Bool),(zgn g s=if b=true then some x else none)->zjo pl g s eb w (.returned (.bool b)) (w4.setCell ⟨w.heap.size,0,none⟩ (.bool b)):=fun b hb=>by
   refine ⟨?_,zly HB4.out (zL _) _,fun t0 h=>?_⟩
   ·rw[hb];cases b<;>rfl
   ·rw[hb] at h
    cases b with
    | false=>cases h
    | true=>cases h;exact ⟨ds,HD4.out,(HO4.out.frame fun y hy=>zc2 _ _ _ _ (by have:=HO4.out.lo y hy;omega)).mono (by omega),zjc HC4.out _ (by omega)⟩
  have HFIN:=zH hfin;clear hfin;by_cases hl:l=0
  ·have b1:((l:Int)==0)=true:=by rw[hl];rfl
   have HE:Hid (zgn g s=if true=true then some x else none):=zH (by rw[HSRC2.out,if_pos hl,if_pos rfl])
   clear hl;go_wp2_with fail
   refine leaves_cons (f:=72) (args:=#[.pointer (some ⟨w.heap.size,0,none⟩)]) (by simp) (by simp[go_sem]) ?_;refine (zgu ⟨w.heap.size,0,none⟩ _).mono ?_;rintro e u' w'' ⟨rfl,rfl,rfl⟩;exact ⟨.bool true,by simp[results,Tryz.results29,go_sem, *],HFIN.out true HE.out⟩
  ·have b1:((l:Int)==0)=false:=by
    rw[beq_eq_false_iff_ne];omega
   have HE:Hid (zgn g s=if false=true then some x else none):=zH (by rw[HSRC2.out,if_neg hl,if_neg (by simp)])
   clear hl;go_wp2_with fail
   refine leaves_cons (f:=72) (args:=#[.pointer (some ⟨w.heap.size,0,none⟩)]) (by simp) (by simp[go_sem]) ?_;refine (zgu ⟨w.heap.size,0,none⟩ _).mono ?_;rintro e u' w'' ⟨rfl,rfl,rfl⟩;exact ⟨.bool false,by simp[results,Tryz.results29,go_sem, *],HFIN.out false HE.out⟩
end Go.Proofs.YtlmhgeanknhcfaaGreatDoor.ParI
