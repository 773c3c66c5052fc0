/-
  XtParseExpr
-/
import Derived.Test.YtlmhgeanknhcfaaGreatDoorB16
import Derived.Test.YtlmhgeanknhcfaaGreatDoorB2
import Derived.Test.YtlmhgeanknhcfaaGreatDoorB15
import Derived.Test.YtlmhgeanknhcfaaGreatDoorB22
import Derived.Test.YtlmhgeanknhcfaaGreatDoorB33
namespace Go.Proofs.YtlmhgeanknhcfaaGreatDoor.Gram
open Tree
section
variable (ex:X)
end
def parse (r:R):Option E:=
 match expr (r.length+1) r with
 | some (e,[])=>some e
 | _=>none
section
variable {ex:X}
end
end Go.Proofs.YtlmhgeanknhcfaaGreatDoor.Gram
namespace Go.Proofs.YtlmhgeanknhcfaaGreatDoor.Gram
open Tree
def source (s:ByteArray):Option E:=match Tok.tokens s with|none=>none|some ts=>parse ts
theorem zwx {r:R} {e:E} (h:parse r=some e):weight e+1<=cost r:=by
 unfold parse at h
 split at h
 ·rename_i e' he
  have h1:=zd4 _ _ _ _ he;cases h;omega
 ·cases h
theorem zjk {s:ByteArray} {e:E} (h:source s=some e):weight e<=4800:=by
 unfold source at h
 split at h
 ·cases h
 ·rename_i ts hts
  have h1:=zwx h;obtain ⟨h2,-,h3⟩:=Tok.zg8 s ts hts;rw[zh4] at h1;omega
end Go.Proofs.YtlmhgeanknhcfaaGreatDoor.Gram
namespace Go.Proofs.YtlmhgeanknhcfaaGreatDoor.SpecParse
set_option maxHeartbeats 8000000
set_option maxRecDepth 10000
open Go.RowKit
open Strs Tree Gram
open Go.Proofs.YtlmhgeanknhcfaaGreatDoor.Parser
def zww:E:=.mk 0 none_ 0 [] []
noncomputable def answer (s:ByteArray):Option E:=match source s with|none=>none|some e=>if zdm e=true then some e else none
def ztg (a:Option E) (w:World) (e:Ending) (w':World):Prop:=
 ∃ v,e=.returned (.tuple #[v,.bool a.isSome])/\Reads w.heap.size w' (a.getD zww) v/\Below w.heap.size w w'
theorem zjr (lo:Nat) (w:World):Reads lo w zww (.agg #[.int .i64 0,.string ⟨#[]⟩,.int .i64 0,.slice none 0 0,.slice none 0 0]):=
 ⟨_,_,rfl,zfi (by rfl) (by rfl) (Nat.zero_le _)⟩
theorem zpk (s:ByteArray) (w:World) (hs:s.size<=1048576):
  Calls Tryz.prog 7 #[.string s] w (ztg (answer s) w):=by
 have hb0:Below w.heap.size w (w.alloc (.cells #[.int .i64 0,.string ⟨#[]⟩,.int .i64 0,.slice none 0 0,.slice none 0 0] 25)):=(zB _ _).alloc (zL _) _;have HB0:=zH hb0;have HZ:=zH (zcd w 25);have KT:=zH (zfu s (w.alloc (.cells #[.int .i64 0,.string ⟨#[]⟩,.int .i64 0,.slice none 0 0,.slice none 0 0] 25)) hs);have hw0:(w.alloc (.cells #[.int .i64 0,.string ⟨#[]⟩,.int .i64 0,.slice none 0 0,.slice none 0 0] 25)).heap.size=w.heap.size+1:=by simp
 have HW0:=zH hw0;clear hb0 hw0;generalize hA:answer s=A;have HA:=zH hA;clear hA;go_enter Tryz.func7,Tryz.ntmps7;go_wp2_with fail
 refine KT.out.mono ?_;intro e w1 hread;cases hts:Tok.tokens s with
 | none=>
  rw[hts] at hread;obtain ⟨rfl,hb1⟩:=hread;have hAn:A=none:=by rw[<-HA.out];unfold answer source;rw[hts]
  subst hAn;clear HA hts;have HB1:=zH hb1;obtain ⟨hszz,y0,y1,y2,y3,y4,yfz⟩:=HZ.out.step hb1;have hB:=zH (HB0.out.trans (hb1.mono (by rw[HW0.out];omega)));clear hb1 KT;go_wp2_with fail
  have hb9:=zai (zB w.heap.size w1) (B:=w.heap.size) (zL _) (.int .i64 0) (.string ⟨#[]⟩) (.int .i64 0) (.slice none 0 0) (.slice none 0 0);refine bodyPost_ret (v:=.tuple #[.agg #[.int .i64 0,.string ⟨#[]⟩,.int .i64 0,.slice none 0 0,.slice none 0 0],.bool false]) (by simp[results,Tryz.results7,go_sem, *]) rfl ?_;exact ⟨_,rfl,zjr _ _,(hB.out.trans hb9).alloc (hB.out.trans hb9).size _⟩
 | some ts=>
  rw[hts] at hread;obtain ⟨v1,rfl,hown,hb1⟩:=hread;obtain ⟨ta,cap,rfl⟩:=Kit.za5 hown;have hroom:=zmb hown
  have hpb:∀ b o,ta=some ⟨b,o,none⟩->b<w1.heap.size:=fun b o e=>by subst e;exact (hown.lt b rfl).2
  have HB1:=zH hb1;have hz1:=HZ.out.step hb1;have HBB:=zH (HB0.out.trans (hb1.mono (by rw[HW0.out];omega)));have hw1:w.heap.size+1<=w1.heap.size:=hz1.size;obtain ⟨P,hP⟩:∃ P:Cst,P=⟨w1.heap.size,ta,cap,ts⟩:=⟨_,rfl⟩;have hpbw:P.pb=w1.heap.size:=by rw[hP]
  have hfit:Fit P:=zwz (s:=s) (by rw[hP];exact hts) (by rw[hP];exact hroom.2.1) (by rw[hP];exact hroom.2.2);have hba:Below w1.heap.size w1 (w1.alloc (.cells #[.slice ta ts.length cap,.int .i64 0,.bool false] 58)):=(zB _ _).alloc (zL _) _
  have hps:PS P 0 false (w1.alloc (.cells #[.slice ta ts.length cap,.int .i64 0,.bool false] 58)):=by
   subst hP;refine ⟨hfit,by simp,Nat.zero_le _,?_,?_,?_,fun o=>?_,fun i t ht=>?_⟩
   ·go_simp
   ·go_simp
   ·go_simp
   ·go_simp
   ·obtain ⟨b,o,e,hlt,d0,d1,d2⟩:=zgh hown i t ht
    exact ⟨b,o,e,by simp only;omega,cell_keep hba d0,cell_keep hba d1,cell_keep hba d2⟩
  have HPS:=zH hps;have HSRC:Hid (source s=parse P.toks):=zH (by unfold source;rw[hts,hP]);have HN:Hid (P.toks.length=ts.length):=zH (by rw[hP]);have h8:=hfit.len;rw[HN.out] at h8;have KX:=zH (zlv (P.toks.length+1) P 0 _ hps (by rw[zaf];omega));rw[hpbw] at KX;have HPB:=zH hpbw;have HZP:=zH (hz1.step hba);have HBP:=zH (HBB.out.alloc HBB.out.size (.cells #[.slice ta ts.length cap,.int .i64 0,.bool false] 58))
  have hwp:(w1.alloc (.cells #[.slice ta ts.length cap,.int .i64 0,.bool false] 58)).heap.size=w1.heap.size+1:=by simp
  have HWP:=zH hwp;clear hown hb1 KT hts hz1 hpbw hfit hba hps hP HB1 HB0 HZ hroom hpb hwp;generalize ts.length=N at *;go_wp2_with fail
  refine KX.out.mono ?_;rintro e w3 ⟨v3,t3,q3,b3,rfl,hr3,h3,ht3,hg3⟩;obtain ⟨xn,xk,rfl,hnode⟩:=hr3;obtain ⟨xa,xl,xc,ya,yl,yc,rfl,rfl⟩:=zcw hnode;have hba:Below w3.heap.size w3 (w3.alloc (.cells #[.int .i64 t3.kind,.string t3.text,.int .i64 t3.num,.slice xa xl xc,.slice ya yl yc] 25)):=(zB _ _).alloc (zL _) _;have HN3:=zH (zaw.keep (lo:=w.heap.size+1) (hi:=(w1.alloc (.cells #[.slice ta N cap,.int .i64 0,.bool false] 58)).heap.size) (by rw[HWP.out];omega) (za1 hba) _ _ _ hnode)
  have HF3:=zH (zcq w3 (.int .i64 t3.kind) (.string t3.text) (.int .i64 t3.num) (.slice xa xl xc) (.slice ya yl yc) 25);have HZ3:=zH ((HZP.out.turn ht3 (by rw[HPB.out];omega)).step hba);have hbt:Below w.heap.size w w3:=HBP.out.trans ⟨ht3.os,ht3.tape,ht3.output,ht3.size,fun k hk=>World.grownBy.block ht3 k (by rw[HWP.out];omega) (by rw[HPB.out];simp;omega)⟩
  have HBT:=zH hbt;have HB3:=zH (hbt.trans (hba.mono hbt.size));have h3':=h3.below hba;have c1:=h3'.c1;have c2:=h3'.c2;rw[HPB.out] at c1 c2;have hqN:=h3'.le;rw[HN.out] at hqN;have h13:=ht3.size;rw[HWP.out] at h13
  have HG:Hid (source s=if b3=true then none else if q3=N then some t3 else none):=zH (by
   rw[HSRC.out];unfold parse;have hr0:rest P 0=P.toks:=rfl;rw[hr0] at hg3;rw[hg3];cases b3 with
   | true=>rfl
   | false=>
    by_cases hq:q3=N
    ·have:rest P q3=[]:=List.eq_nil_of_length_eq_zero (by rw[zaf,HN.out];omega)
     show (match some (t3,rest P q3) with|some (e,[])=>some e|_=>none)=_
     rw[this];simp[hq]
    ·have:0<(rest P q3).length:=by rw[zaf,HN.out];omega
     cases hrr:rest P q3 with
     | nil=>rw[hrr] at this;cases this
     | cons x r=>simp[Got,hq])
  clear h3 h3' ht3 hnode hba hg3 hbt KX HZP HBP HPS HSRC;cases b3 with
  | true=>
   clear HN3;have hAn:A=none:=by rw[<-HA.out];unfold answer;rw[HG.out];rfl
   subst hAn;obtain ⟨hszz,y0,y1,y2,y3,y4,yfz⟩:=HZ3.out;go_wp2_with fail
   have hb9:=zai (zB w.heap.size (w3.alloc (.cells #[.int .i64 t3.kind,.string t3.text,.int .i64 t3.num,.slice xa xl xc,.slice ya yl yc] 25))) (B:=w.heap.size) (zL _) (.int .i64 0) (.string ⟨#[]⟩) (.int .i64 0) (.slice none 0 0) (.slice none 0 0);refine bodyPost_ret (v:=.tuple #[.agg #[.int .i64 0,.string ⟨#[]⟩,.int .i64 0,.slice none 0 0,.slice none 0 0],.bool false]) (by simp[results,Tryz.results7,go_sem, *]) rfl ?_
   exact ⟨_,rfl,zjr _ _,HB3.out.trans hb9⟩
  | false=>
   by_cases hq:q3=N
   case neg=>
    have e1:((q3:Int) != (N:Int))=true:=by simp;omega
    clear HN3;have hAn:A=none:=by rw[<-HA.out];unfold answer;rw[HG.out];simp[hq]
    subst hAn;obtain ⟨hszz,y0,y1,y2,y3,y4,yfz⟩:=HZ3.out;go_wp2_with fail
    have hb9:=zai (zB w.heap.size (w3.alloc (.cells #[.int .i64 t3.kind,.string t3.text,.int .i64 t3.num,.slice xa xl xc,.slice ya yl yc] 25))) (B:=w.heap.size) (zL _) (.int .i64 0) (.string ⟨#[]⟩) (.int .i64 0) (.slice none 0 0) (.slice none 0 0);refine bodyPost_ret (v:=.tuple #[.agg #[.int .i64 0,.string ⟨#[]⟩,.int .i64 0,.slice none 0 0,.slice none 0 0],.bool false]) (by simp[results,Tryz.results7,go_sem, *]) rfl ?_
    exact ⟨_,rfl,zjr _ _,HB3.out.trans hb9⟩
   have hsrc:source s=some t3:=by rw[HG.out];simp[hq]
   have hwt:=zjk hsrc;have e1:((q3:Int) != (N:Int))=false:=by simp;omega
   have KE:=zH (SpecRight.zml (lo:=w.heap.size+1) (w:=w3.alloc (.cells #[.int .i64 t3.kind,.string t3.text,.int .i64 t3.num,.slice xa xl xc,.slice ya yl yc] 25)) ⟨_,_,rfl,HN3.out⟩ (by omega));have HAN:Hid (A=if zdm t3=true then some t3 else none):=zH (by rw[<-HA.out];unfold answer;rw[hsrc])
   clear hsrc hwt HG HA;obtain ⟨hs5,f0,f1,f2,f3,f4,f5⟩:=HF3.out;cases hie:zdm t3 with
   | false=>
    rw[hie] at KE;have hAn:A=none:=by rw[HAN.out,hie];rfl
    subst hAn;clear HAN hie;go_wp2_with fail
    refine KE.out.mono ?_;rintro e w7 ⟨rfl,hb7⟩;obtain ⟨hszz,y0,y1,y2,y3,y4,yfz⟩:=HZ3.out.step hb7;have f7:=HF3.out.step hb7;have HB7:=zH (HB3.out.trans (hb7.mono HB3.out.size));have HN7:=zH (HN3.out.below hb7);clear hb7 f0 f1 f2 f3 f4 f5 KE;obtain ⟨hs5,f0,f1,f2,f3,f4,f5⟩:=f7;go_wp2_with fail
    have hb9:=zai (zB w.heap.size w7) (B:=w.heap.size) (zL _) (.int .i64 0) (.string ⟨#[]⟩) (.int .i64 0) (.slice none 0 0) (.slice none 0 0);refine bodyPost_ret (v:=.tuple #[.agg #[.int .i64 0,.string ⟨#[]⟩,.int .i64 0,.slice none 0 0,.slice none 0 0],.bool false]) (by simp[results,Tryz.results7,go_sem, *]) rfl ?_;exact ⟨_,rfl,zjr _ _,HB7.out.trans hb9⟩
   | true=>
    rw[hie] at KE;have hAn:A=some t3:=by rw[HAN.out,hie];rfl
    subst hAn;clear HAN hie;go_wp2_with fail
    refine KE.out.mono ?_;rintro e w7 ⟨rfl,hb7⟩;obtain ⟨hszz,y0,y1,y2,y3,y4,yfz⟩:=HZ3.out.step hb7;have f7:=HF3.out.step hb7;have HB7:=zH (HB3.out.trans (hb7.mono HB3.out.size));have HN7:=zH (HN3.out.below hb7);clear hb7 f0 f1 f2 f3 f4 f5 KE;obtain ⟨hs5,f0,f1,f2,f3,f4,f5⟩:=f7;go_wp2_with fail
    have hb9:=zai (zB w.heap.size w7) (B:=w.heap.size) (zL _) (.int .i64 t3.kind) (.string t3.text) (.int .i64 t3.num) (.slice xa xl xc) (.slice ya yl yc);refine bodyPost_ret (v:=.tuple #[.agg #[.int .i64 t3.kind,.string t3.text,.int .i64 t3.num,.slice xa xl xc,.slice ya yl yc],.bool true]) (by simp[results,Tryz.results7,go_sem, *]) rfl ?_;exact ⟨_,rfl,⟨_,_,rfl,zaw.keep (lo:=w.heap.size) (hi:=w.heap.size+1) (Nat.le_succ _) (zcl w7 (Nat.lt_succ_self _) _ _ _ _ _) _ _ _ HN7.out⟩,HB7.out.trans hb9⟩
end Go.Proofs.YtlmhgeanknhcfaaGreatDoor.SpecParse
namespace Go.Proofs.YtlmhgeanknhcfaaGreatDoor.Placed
open Go.RowKit
open Strs Tree
namespace T
end T
theorem zzl (t:T):(toE t).kind=t.kind:=by cases t;rw[toE];rfl
theorem zy9 (t:T):(toE t).text=t.text:=by cases t;rw[toE];rfl
theorem z5h (t:T):(toE t).num=t.num:=by cases t;rw[toE];rfl
theorem zcc (ts:List T) (i:Nat) (h:i<ts.length):(row ts)[i*5]?=some (.int .i64 ts[i].kind)/\(row ts)[i*5+1]?=some (.string ts[i].text)/\(row ts)[i*5+2]?=some (.int .i64 ts[i].num)/\(row ts)[i*5+3]?=some ts[i].vn/\(row ts)[i*5+4]?=some ts[i].vk:=by
 induction ts generalizing i with
 | nil=>simp at h
 | cons t ts ih=>
  have e:row (t::ts)=.int .i64 t.kind::.string t.text::.int .i64 t.num::t.vn::t.vk::row ts:=rfl;rw[e];cases i with
  | zero=>exact ⟨rfl,rfl,rfl,rfl,rfl⟩
  | succ i=>
   have:=ih i (by simpa using h);rw[show (i+1)*5=i*5+1+1+1+1+1 by omega]
   simpa using this
theorem z6z {w:World} {lo:Nat} {v:Value} {xs:List ByteArray} (h:w.ownsRow lo 9 1 v xs.length (xs.map Value.string)) (hx:∀ x,x∈xs->x.size<=maxLen):zbv lo w xs v:=by
 have h':=h;obtain ⟨_,⟨rfl,hn⟩|⟨g,cap,cur,rfl,hbg,hg,hnc,hcm,_,_⟩⟩:=h
 ·exact ⟨none,0,by rw[hn],⟨by omega,by unfold maxLen;omega⟩,hx,fun hp=>by omega⟩
 ·refine ⟨_,cap,rfl,⟨hnc,hcm⟩,hx,fun hp=>⟨g,0,rfl,hbg,fun j hj=>?_⟩⟩
  rw[Nat.zero_add,h'.cellAt j (by omega)];simp[hj]
theorem Good.node {w:World} {lo:Nat}:∀ t,Good w t->(∀ b,b∈foot t->lo<=b)->zaw lo w (toE t) t.vn t.vk:=by
 refine ind fun k t n ns vn vk ks ih=>?_
 intro h hl;rw[Good] at h;obtain ⟨h1,h2,h3,h4,h5,h6,h7⟩:=h;rw[foot] at hl;rw[zam] at h7;rw[toE];have hnl:∀ b,b∈blk vn->lo<=b:=fun b hb=>hl b (by simp[hb])
 refine zbn.2 ⟨h1,h2,h3,z6z (zfx h5 hnl) h4,?_⟩;show zdh lo w (zg2 ks) vk
 have hkl:∀ b,b∈blk vk->lo<=b:=fun b hb=>hl b (by simp[hb])
 have h6':=h6;obtain ⟨_,⟨rfl,hn⟩|⟨g,cap,cur,rfl,hbg,hg,hnc,hcm,_,_⟩⟩:=h6
 ·exact ⟨none,0,by rw[zdw,hn],⟨by rw[zdw];omega,by unfold maxLen;omega⟩,fun hp=>by rw[zdw] at hp;omega⟩
 ·refine ⟨_,cap,by rw[zdw],⟨by rw[zdw];exact hnc,hcm⟩,fun hp=>⟨g,0,rfl,hkl g (by simp[blk,Value.ownBlock]),?_⟩⟩
  rw[row_iff];intro i hi;rw[zdw] at hi;have hr:=zcc ks i hi;have he:(zg2 ks)[i]'(by rw[zdw];exact hi)=toE ks[i]:=by simp[zn7]
  have hmem:ks[i]∈ks:=List.getElem_mem _;rw[he];refine ⟨ks[i].vn,ks[i].vk,?_,?_,?_,?_,?_,ih _ hmem (h7 _ hmem) fun b hb=>hl b (by simp[zda hmem b hb])⟩
  ·rw[Nat.zero_add,h6'.cellAt _ (by omega),hr.1,zzl]
  ·rw[Nat.zero_add,h6'.cellAt _ (by omega),hr.2.1,zy9]
  ·rw[Nat.zero_add,h6'.cellAt _ (by omega),hr.2.2.1,z5h]
  ·rw[Nat.zero_add,h6'.cellAt _ (by omega),hr.2.2.2.1]
  ·rw[Nat.zero_add,h6'.cellAt _ (by omega),hr.2.2.2.2]
theorem Good.soft {w:World} {lo:Nat}:∀ t,Good w t->(∀ b,b∈foot t->lo<=b)->zgy.zgy lo w (toE t) t.vk:=by
 refine ind fun k t n ns vn vk ks ih=>?_
 intro h hl;rw[Good] at h;obtain ⟨h1,h2,h3,h4,h5,h6,h7⟩:=h;rw[foot] at hl;rw[zam] at h7;rw[zgy.zhj,toE];show zgy.zea lo w (zg2 ks) vk
 have hkl:∀ b,b∈blk vk->lo<=b:=fun b hb=>hl b (by simp[hb])
 have h6':=h6;obtain ⟨_,⟨rfl,hn⟩|⟨g,cap,cur,rfl,hbg,hg,hnc,hcm,_,_⟩⟩:=h6
 ·exact ⟨none,0,by rw[zdw,hn],fun hp=>by rw[zdw] at hp;omega⟩
 ·refine ⟨_,cap,by rw[zdw],fun hp=>⟨g,0,rfl,hkl g (by simp[blk,Value.ownBlock]),fun o=>h6'.frozenAt o,?_⟩⟩
  rw[zgy.zg4];intro i hi;rw[zdw] at hi;have hr:=zcc ks i hi;have he:(zg2 ks)[i]'(by rw[zdw];exact hi)=toE ks[i]:=by simp[zn7]
  have hmem:ks[i]∈ks:=List.getElem_mem _;rw[he];exact ⟨ks[i].vk,by rw[Nat.zero_add,h6'.cellAt _ (by omega),hr.2.2.2.2],ih _ hmem (h7 _ hmem) fun b hb=>hl b (by simp[zda hmem b hb])⟩
theorem Own.reads {base:Nat} {w:World} {t:T} (h:Own base w t):Reads base w (toE t) (agg t):=⟨t.vn,t.vk,by unfold agg;rw[zzl,zy9,z5h],Good.node t h.good h.lo⟩
end Go.Proofs.YtlmhgeanknhcfaaGreatDoor.Placed
namespace Go.Proofs.YtlmhgeanknhcfaaGreatDoor.ParI
set_option maxHeartbeats 8000000
set_option maxRecDepth 10000
open Go.RowKit
open Strs Tree Gram Placed
open Go.Proofs.YtlmhgeanknhcfaaGreatDoor.Parser
theorem zzx {P:Cst} {w:World} {eb:Nat} (h:IS P 0 w) (hz:Zero eb w) (hne:eb≠P.pb):
  Calls Tryz.prog 30 #[.pointer (some ⟨P.pb,0,none⟩),.pointer (some ⟨eb,0,none⟩)] w fun e w'=>
   (∃ t q w1,e=.returned (.tuple #[])/\Own w.heap.size w1 t/\IS P q w1/\za2 P w w1/\w'=zgq w1 eb (.int .i64 t.kind) (.string t.text) (.int .i64 t.num) t.vn t.vk/\expr (P.toks.length+1) (rest P 0)=some (toE t,rest P q)) \/
   (zsr e/\za2 P w w'/\expr (P.toks.length+1) (rest P 0)=none):=by
 have KX:=zH (zsg (P.toks.length+1) P 0 w h (by rw[zaf];omega));have HZ:=zH hz;clear h hz;generalize hpb:P.pb=pb at *;have HPB:=zH hpb;clear hpb;generalize expr (P.toks.length+1) (rest P 0)=G at *;go_enter Tryz.func30,Tryz.ntmps30;go_wp2_with fail
 refine KX.out.mono ?_;rintro e w1 (⟨t,q,rfl,ho,h,ht,hg⟩|⟨⟨v,rfl⟩,ht,hg⟩)
 case inr=>
  have HG:=zH hg;have HT:=zH ht;clear hg ht KX;go_wp2_with fail
  exact ⟨rfl,.inr ⟨⟨_,rfl⟩,HT.out,HG.out⟩⟩
 obtain ⟨ua,uc,ub,ud,hf1,hf2⟩:=zbm ho.good;obtain ⟨uk,ut,un,uns,uvn,uvk,uks⟩:=t;simp only[T.vn,T.vk,T.names,T.kids] at hf1 hf2;subst hf1 hf2;obtain ⟨hszz,y0,y1,y2,y3,y4,yfz⟩:=HZ.out.turn ht (by rw[HPB.out];exact hne);have HO:=zH ho;have HPS:=zH h;have HT:=zH ht;have HG:=zH hg;unfold agg;simp only[T.kind,T.text,T.num,T.vn,T.vk];clear ho h ht hg KX HZ;go_wp2_with fail
 go_end0
 exact .inl ⟨_,q,w1,rfl,HO.out,HPS.out,HT.out,rfl,HG.out⟩
theorem z18 {B:Nat} {w:World} (h:Zero B w):zjd B (.int .i64 0) (.string ⟨#[]⟩) (.int .i64 0) (.slice none 0 0) (.slice none 0 0) w:=⟨h.size,h.z0,h.z1,h.z2,h.z3,h.z4,h.fz⟩
theorem ztx {a b:World} {eb B:Nat} (h:Below a.heap.size a b) (v1 v2 v3 v4 v5 v6:Value) (hB:a.heap.size<=B):a.grownBy ((zgq b eb v1 v2 v3 v4 v5).setCell ⟨B,0,none⟩ v6) (some eb):=by have h0:za2 ⟨eb,none,0,[]⟩ a b:=(za2.refl _ a).low h;have h5:za2 ⟨eb,none,0,[]⟩ a (zgq b eb v1 v2 v3 v4 v5):=((((h0.set 0 v1).set 1 v2).set 2 v3).set 3 v4).set 4 v5;exact h5.low ((zB _ _).setCell (by show a.heap.size<=B;exact hB) _)
theorem z0y {r r1:R} {e:E} (h:expr (r.length+1) r=some (e,r1)):parse r=if r1.length=0 then some e else none:=by
 unfold parse;rw[h];cases r1 with
 | nil=>rfl
 | cons t r=>rfl
theorem z0n {r:R} (h:expr (r.length+1) r=none):parse r=none:=by unfold parse;rw[h]
def z3f (s:ByteArray) (eb:Nat) (w:World) (e:Ending) (w':World):Prop:=
 e=.returned (.bool (Gram.source s).isSome)/\w.grownBy w' (some eb)/\∀ t0,Gram.source s=some t0->∃ t,toE t=t0/\Own w.heap.size w' t/\zjd eb (.int .i64 t.kind) (.string t.text) (.int .i64 t.num) t.vn t.vk w'
theorem zvb (s:ByteArray) (w:World) (hM:Max w) {eb:Nat} (hz:Zero eb w):
  Calls Tryz.prog 29 #[.string s,.func (.func 30) #[] #[.pointer (some ⟨eb,0,none⟩)]] w (z3f s eb w):=by
 have hmf:∀ (fn:Fn) (first cap:Array Value) (w:World),(Instr.makeFunc fn first cap).run Tryz.prog w=.ok (.func fn first cap) w:=fun _ _ _ _=>rfl
 have hb0:Below w.heap.size w (w.alloc (.cells #[.bool false] 4)):=(zB _ _).alloc (zL _) _;have KT:=zH (ImplTokens.zfu s (w.alloc (.cells #[.bool false] 4)) (hM.keep hb0));have HOK:=zH (zv6 w false 4);have HZ:=zH (hz.step hb0);have HB0:=zH hb0;have hez:=hz.size;have hw0:(w.alloc (.cells #[.bool false] 4)).heap.size=w.heap.size+1:=by simp
 have HW0:=zH hw0;clear hb0 hz hM hw0
 go_enter_defers Tryz.func29,Tryz.ntmps29
 go_wp2_with fail
 refine KT.out.mono ?_;intro e w1 hread;cases hts:Tok.tokens s with
 | none=>
  rw[hts] at hread;obtain ⟨rfl,hb1⟩:=hread;have hsrc:Gram.source s=none:=by unfold Gram.source;rw[hts]
  have HB1:=zH (HB0.out.trans (hb1.mono (by rw[HW0.out];omega)));have HSRC:=zH hsrc;obtain ⟨o1,o2,o3⟩:=HOK.out.step hb1;clear hb1 KT hts hsrc;go_wp2_with fail
  refine ⟨.bool false,by simp[results,Tryz.results29,go_sem, *],?_⟩
  have hb9:Below w.heap.size w ((w1.setCell ⟨w.heap.size,0,none⟩ (.bool false)).setCell ⟨w.heap.size,0,none⟩ (.bool false)):=(HB1.out.setCell (by show w.heap.size<=w.heap.size;omega) _).setCell (by show w.heap.size<=w.heap.size;omega) _;exact ⟨by rw[HSRC.out];rfl,below_grown hb9 _,fun t0 h=>by (rw[HSRC.out] at h;cases h)⟩
 | some ts=>
  rw[hts] at hread;obtain ⟨v1,rfl,hown,hb1⟩:=hread;obtain ⟨ta,cap,rfl⟩:=Kit.za5 hown;have hroom:=SpecParse.zmb hown;have hs1:w.heap.size+1<=w1.heap.size:=by rw[<-HW0.out];exact hb1.size
  have hbase:∀ b o,ta=some ⟨b,o,none⟩->w.heap.size+1<=b/\b<w1.heap.size:=fun b o e=>by subst e;have h1:=hown.lt b rfl;rw[HW0.out] at h1;exact h1
  have hok1:=HOK.out.step hb1;obtain ⟨P,hP⟩:∃ P:Cst,P=⟨w1.heap.size,ta,cap,ts⟩:=⟨_,rfl⟩;have hpbw:P.pb=w1.heap.size:=by rw[hP]
  have hfit:yc0 P:=zrn (s:=s) (by rw[hP];exact hts) (by rw[hP];exact hroom.2.1) (by rw[hP];exact hroom.2.2);obtain ⟨w3,hw3⟩:∃ w3,w3=(w1.setCell ⟨w.heap.size,0,none⟩ (.bool true)).alloc (.cells #[.slice ta ts.length cap] 104):=⟨_,rfl⟩;have hb2:Below w.heap.size w1 (w1.setCell ⟨w.heap.size,0,none⟩ (.bool true)):=(zB _ _).setCell (by show w.heap.size<=w.heap.size;omega) _;have hsz2:(w1.setCell ⟨w.heap.size,0,none⟩ (.bool true)).heap.size=w1.heap.size:=by simp[World.setCell]
  have hba:Below (w1.setCell ⟨w.heap.size,0,none⟩ (.bool true)).heap.size (w1.setCell ⟨w.heap.size,0,none⟩ (.bool true)) w3:=by rw[hw3];exact (zB _ _).alloc (zL _) _
  have hps:IS P 0 w3:=by
   refine ⟨hfit,?_,Nat.zero_le _,?_,fun o=>?_,fun i t ht=>?_⟩
   ·rw[hpbw,hw3]
    simp
   ·refine ⟨ta,cap,?_,?_,hroom.2.2,fun hlt=>?_⟩
    ·rw[hpbw,hw3,hP]
     rw[<-hsz2]
     go_simp
    ·rw[hP];exact hroom.2.1
    ·rw[hP] at hlt
     obtain ⟨b,o,e,-⟩:=SpecParse.zgh hown 0 ts[0] (List.getElem?_eq_getElem hlt);rw[hP];exact ⟨b,o,e,by rw[e];rfl⟩
   ·rw[hpbw,hw3]
    rw[<-hsz2]
    go_simp
   ·rw[hP] at ht
    obtain ⟨b,o,e,hlt,d0,d1,d2⟩:=SpecParse.zgh hown i t ht;have h1:=hbase b o e;have hn:b≠w.heap.size:=by omega
    refine ⟨b,o,by rw[hP];exact e,by rw[hpbw];omega,cell_keep hba (other _ _ _ _ _ _ _ (.inl hn) d0),cell_keep hba (other _ _ _ _ _ _ _ (.inl hn) d1),cell_keep hba (other _ _ _ _ _ _ _ (.inl hn) d2)⟩
  have hz1:=HZ.out.step hb1;have hz3:Zero eb w3:=(hz1.same (by rw[hsz2];exact zL _) (zc2 w1 w.heap.size 0 (.bool true) (by omega))).step hba;have hok3:OkC w.heap.size true w3:=(zw4 hok1 true).step hba;have hB3:Below w.heap.size w w3:=(((HB0.out.trans (hb1.mono (by rw[HW0.out];omega))).trans hb2).trans (hba.mono (by rw[hsz2];omega)));have KR:=zH (zzx hps hz3 (by rw[hpbw];omega))
  rw[hpbw] at KR;have HSRC:Hid (Gram.source s=parse P.toks):=zH (by unfold Gram.source;rw[hts,hP]);have HR0:Hid (rest P 0=P.toks):=zH rfl;have HPB:=zH hpbw;have HB3:=zH hB3;have HOK3:=zH hok3;have HZ4:=zH hz3;have hs3:w3.heap.size=w1.heap.size+1:=by rw[hw3];simp
  have HW3:=zH hw3;have h8:=hfit.fit.len;obtain ⟨o1,o2,o3⟩:=hok1;clear hown hroom hbase hfit hb2 hsz2 hba hps hz1 hz3 hok3 hB3 hb1 KT hts hpbw hP HZ HOK HB0 hw3
  go_upto_region 6 with fail
  rw[<-HW3.out];clear HW3;go_wp2_with fail
  refine KR.out.mono ?_;rintro e w4 (⟨t,q,w4',rfl,ho,h,ht,hw4,hg⟩|⟨⟨v,rfl⟩,ht,hg⟩)
  case inr=>
   have hsrc:Gram.source s=none:=by rw[HSRC.out];rw[HR0.out] at hg;exact z0n hg
   have HSRC2:=zH hsrc;obtain ⟨o1',o2',o3'⟩:=HOK3.out.turn ht (by rw[HPB.out];omega);have HB4:=zH (zhz HB3.out ht (by rw[HPB.out];omega) (by omega));clear hg ht hsrc KR o1 o2 o3;go_wp2_with fail
   refine leaves_cons (f:=72) (args:=#[.pointer (some ⟨w.heap.size,0,none⟩)]) (by simp) (by simp[go_sem]) ?_;refine (zg9 ⟨w.heap.size,0,none⟩ true v [] _ o2' o3').mono ?_;rintro e u' w'' ⟨rfl,rfl,rfl⟩;refine ⟨.bool false,by simp[results,Tryz.results29,go_sem, *],?_⟩
   have hb9:Below w.heap.size w (w4.setCell ⟨w.heap.size,0,none⟩ (.bool false)):=HB4.out.setCell (by show w.heap.size<=w.heap.size;omega) _;exact ⟨by rw[HSRC2.out];rfl,below_grown hb9 _,fun t0 h=>by (rw[HSRC2.out] at h;cases h)⟩
  have hHe:Gram.source s=if (rest P q).length=0 then some (toE t) else none:=by rw[HSRC.out];rw[HR0.out] at hg;exact z0y hg
  have hq:=h.le;rw[zaf] at hHe;have HSRC2:=zH hHe;have hb4:=zhz HB3.out ht (by rw[HPB.out];omega) (by omega)
  have hok4:OkC w.heap.size true w4:=by rw[hw4];exact (HOK3.out.turn ht (by rw[HPB.out];omega)).same (by simp[zgq,World.setCell]) (zf9 _ _ _ _ _ _ _ (by omega))
  have HB4:=zH hb4;have HW4:=zH hw4;obtain ⟨ca,cc,c0⟩:=h.cell;rw[HPB.out] at c0
  have c1:w4.cell? ⟨w1.heap.size,0,none⟩=some (.slice ca (P.toks.length-q) cc):=by rw[hw4];exact (World.cell?_of_block (a:=⟨w1.heap.size,0,none⟩) (zf9 _ _ _ _ _ _ _ (by show w1.heap.size≠eb;omega))).trans c0
  have HO4:Hid (Own w3.heap.size w4 t):=zH (by rw[hw4];exact Own.zgq ho (fun hm=>by have:=ho.lo _ hm;omega) _ _ _ _ _)
  have HF4:Hid (zjd eb (.int .i64 t.kind) (.string t.text) (.int .i64 t.num) t.vn t.vk w4):=zH (by rw[hw4];exact zgr (z18 (HZ4.out.turn ht (by rw[HPB.out];omega))))
  generalize P.toks.length-q=l at *;obtain ⟨o1',o2',o3'⟩:=hok4;clear hg ht hHe KR o1 o2 o3 ho h hb4 hw4 c0 HSRC HR0
  have hfin:∀ (b:Bool),(Gram.source s=if b=true then some (toE t) else none)->z3f s eb w (.returned (.bool b)) (w4.setCell ⟨w.heap.size,0,none⟩ (.bool b)):=fun b hb=>by
   refine ⟨?_,?_,fun t0 h=>?_⟩
   ·rw[hb];cases b<;>rfl
   ·rw[HW4.out]
    exact ztx HB4.out _ _ _ _ _ _ (zL _)
   ·rw[hb] at h
    cases b with
    | false=>cases h
    | true=>cases h;refine ⟨t,rfl,(HO4.out.frame fun x hx=>zc2 _ _ _ _ (by have:=HO4.out.lo x hx;omega)).mono (by omega),HF4.out.same (by simp[World.setCell]) (zc2 _ _ _ _ (by omega))⟩
  have HFIN:=zH hfin;clear hfin;by_cases hl:l=0
  ·have b1:((l:Int)==0)=true:=by rw[hl];rfl
   have HE:Hid (Gram.source s=if true=true then some (toE t) else none):=zH (by rw[HSRC2.out,if_pos hl,if_pos rfl])
   clear hl;go_wp2_with fail
   refine leaves_cons (f:=72) (args:=#[.pointer (some ⟨w.heap.size,0,none⟩)]) (by simp) (by simp[go_sem]) ?_;refine (zgu ⟨w.heap.size,0,none⟩ _).mono ?_;rintro e u' w'' ⟨rfl,rfl,rfl⟩;exact ⟨.bool true,by simp[results,Tryz.results29,go_sem, *],HFIN.out true HE.out⟩
  ·have b1:((l:Int)==0)=false:=by
    rw[beq_eq_false_iff_ne];omega
   have HE:Hid (Gram.source s=if false=true then some (toE t) else none):=zH (by rw[HSRC2.out,if_neg hl,if_neg (by simp)])
   clear hl;go_wp2_with fail
   refine leaves_cons (f:=72) (args:=#[.pointer (some ⟨w.heap.size,0,none⟩)]) (by simp) (by simp[go_sem]) ?_;refine (zgu ⟨w.heap.size,0,none⟩ _).mono ?_;rintro e u' w'' ⟨rfl,rfl,rfl⟩;exact ⟨.bool false,by simp[results,Tryz.results29,go_sem, *],HFIN.out false HE.out⟩
end Go.Proofs.YtlmhgeanknhcfaaGreatDoor.ParI
