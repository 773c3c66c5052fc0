/-
  SpecUniW
-/
import Derived.Test.YtlmhgeanknhcfaaGreatDoorB20
set_option maxHeartbeats 16000000
set_option maxRecDepth 10000
namespace Go.Proofs.YtlmhgeanknhcfaaGreatDoor
namespace SpecParse
open Go.RowKit
open Strs Tree Gram
open Go.Proofs.YtlmhgeanknhcfaaGreatDoor.Parser
open Go.Proofs.YtlmhgeanknhcfaaGreatDoor.Data (Cells zae D val M C U MAt znz)
def zdl (s:ByteArray):Option U:=
 match Tok.tokens s with
 | none=>none
 | some ts=>
  match Gram.unit (expr (ts.length+1)) ts with
  | some (u,[])=>some u
  | _=>none
def zee (s:ByteArray):Option U:=match zdl s with|none=>none|some u=>if Data.zf7 u=true then some u else none
def zvx:U:=⟨[],zka⟩
def zsm (a:Option U) (w:World) (e:Ending) (w':World):Prop:=
 ∃ es,e=.returned (.tuple #[Data.agg es,.bool a.isSome])/\Data.zaa es=Data.zde (a.getD zvx)/\Data.zat 0 w' es/\Below w.heap.size w w'
theorem zqe {P:Cst} {s:ByteArray} {u:U} {q:Nat} {b:Bool} (hts:Tok.tokens s=some P.toks) (hq:q<=P.toks.length) (h:Gram.unit (expr (P.toks.length+1)) P.toks=Got b (u,rest P q)):zdl s=if b=true then none else if q=P.toks.length then some u else none:=by
 unfold zdl;rw[hts];simp only;rw[h];cases b with
 | true=>rfl
 | false=>
  by_cases hq2:q=P.toks.length
  ·have:rest P q=[]:=List.eq_nil_of_length_eq_zero (by rw[zaf];omega)
   show (match some (u,rest P q) with|some (u,[])=>some u|_=>none)=_
   rw[this];simp[hq2]
  ·have:0<(rest P q).length:=by rw[zaf];omega
   cases hrr:rest P q with
   | nil=>rw[hrr] at this;cases this
   | cons x r=>simp[Got,hq2]
theorem z0j {P:Cst} {ex:X} (hx:Light ex) (hs:zcz ex) {q q8:Nat} {b8:Bool} {cs:List C} {c:C} (he:wd zfm (rest P q)=true) (hm:zdj ex (rest P (q+1))=Got b8 (c,rest P q8)) (hq:q8<=P.toks.length):
  (b8=false->q<q8/\zbk ex cs (rest P q)=zbk ex (cs++[c]) (rest P q8))/\(b8=true->zbk ex cs (rest P q)=none):=by
 cases b8 with
 | true=>exact ⟨(fun e=>by cases e),fun _=>zie he (by rw[zab];exact hm)⟩
 | false=>
  refine ⟨fun _=>⟨?_,zi1 hx hs he (by rw[zab];exact hm)⟩,fun e=>by cases e⟩
  have h1:=(zf2 hx hs hm).1;rw[zaf,zaf] at h1;omega
theorem zbd {lo t k:Nat} {w:World} {v:Value} {ds:List D} (h:Data.Holds lo w (.row t k v ds)):∃ a n c,v=.slice a n c:=by rw[Data.Holds] at h;obtain ⟨⟨a,n,c,e,-⟩,-⟩:=h;exact ⟨a,n,c,e⟩
theorem z9g {P:Cst} {q q2:Nat} {b b2:Bool} {x:ByteArray} (hn:b2=false->b=false/\isB 8 ⟨#[109,97,105,110]⟩ (rest P q)=true/\q2=q+1/\x=txt (rest P q)) (hy:b2=true->b=true\/isB 8 ⟨#[109,97,105,110]⟩ (rest P q)=false):
  (b2=false->b=false/\wd zco (rest P q)=true/\q2=q+1)/\(b2=true->b=true\/wd zco (rest P q)=false):=by
 have e:isB 8 ⟨#[109,97,105,110]⟩ (rest P q)=wd zco (rest P q):=zgm zco (by decide) _;rw[e] at hn hy;exact ⟨fun h=>⟨(hn h).1,(hn h).2.1,(hn h).2.2.1⟩,hy⟩
theorem z8c {w w1:World} {lo:Nat} {u:U} {es:List D} {v:Value} (h:Below w.heap.size w w1) (hh:Data.zat lo w1 es) (hl:w.heap.size<lo) (he:Data.zaa es=Data.zde u) (ha:Data.agg es=v) (vs:List Value):zsm (some u) w (.returned (.tuple #[v,.bool true])) (Data.puts w1 w.heap.size 0 vs):=by subst ha;exact ⟨es,rfl,he,hh.keep (Nat.zero_le _) (zme hl vs w1 0 (fun _ _ _ _ h=>h)),Data.zbl (zL _) _ _ _ _ h⟩
theorem zoj (ms:List M):Data.weights (Data.za8 ms)+ms.length=zfl ms:=by
 induction ms with
 | nil=>rfl
 | cons m ms ih=>rw[Data.za8,Data.zbb,Data.zc1,zfl,List.length_cons];omega
theorem zoy (cs:List C):Data.weights (Data.zbj cs)+cs.length=zfd cs:=by
 induction cs with
 | nil=>rfl
 | cons c cs ih=>have h:=zoj c.methods;rw[Data.zbj,Data.zbb,Data.zgt,zfd,zod,List.length_cons];omega
theorem zgk {s:ByteArray} {u:U} (h:zdl s=some u):Data.weights (Data.zde u)<=4900:=by
 unfold zdl at h
 split at h
 ·cases h
 ·rename_i ts hts
  split at h
  ·rename_i u' hm
   cases h;obtain ⟨h1,h0⟩:=z0s (zd4 _) (zau _) hm;obtain ⟨h2,-,h3⟩:=Tok.zg8 s ts hts;have h4:=zoy u.classes;have h5:zco.size=4:=rfl;rw[Data.zgp,Data.zc1,h0];rw[zh4,zh4] at h1;omega
  ·cases h
theorem zli {w w':World} (h:Below w.heap.size w w'):zsm none w (.returned (.tuple #[.agg #[.slice none 0 0,.string ⟨#[]⟩,.bool false,.slice none 0 0,.slice none 0 0,.slice none 0 0],.bool false])) w':=by
 obtain ⟨x,-,hxv,hxe,hxh,-⟩:=zsa (zj4 0 w');refine ⟨.row 0 4 (.slice none 0 0) []::x,?_,?_,?_,h⟩
 ·show _=Ending.returned (.tuple #[.agg (Value.slice none 0 0::Data.vals x).toArray,.bool false])
  rw[hxv];rfl
 ·rw[Data.zha,hxe]
  rfl
 ·rw[Data.zat]
  refine ⟨?_,hxh⟩;rw[Data.Holds];exact ⟨⟨none,0,0,rfl,by decide,rfl,zL _,Nat.zero_le _,fun h=>absurd h (Nat.lt_irrefl _)⟩,by simp[Data.zat]⟩
theorem zsf (s:ByteArray) (w:World) (hs:s.size<=1048576):
  Calls Tryz.prog 22 #[.string s] w (zsm (zee s) w):=by
 have hb0:Below w.heap.size w (w.alloc (.cells #[.slice none 0 0,.string ⟨#[]⟩,.bool false,.slice none 0 0,.slice none 0 0,.slice none 0 0] 43)):=(zB _ _).alloc (zL _) _;obtain ⟨j0,hj,hjz0,hjz1,hjz2⟩:=info_parts ydw;have HB0:=zH hb0;have HZ:=zH (zae w (yad (.slice none 0 0) ⟨#[]⟩ (.slice none 0 0) (.slice none 0 0)) 43);have HZF:=zH (show ∀ o,(w.alloc (.cells #[.slice none 0 0,.string ⟨#[]⟩,.bool false,.slice none 0 0,.slice none 0 0,.slice none 0 0] 43)).frozen? ⟨w.heap.size,o,none⟩=false from fun o=>by go_simp)
 have KT:=zH (zfu s (w.alloc (.cells #[.slice none 0 0,.string ⟨#[]⟩,.bool false,.slice none 0 0,.slice none 0 0,.slice none 0 0] 43)) hs);have hw0:(w.alloc (.cells #[.slice none 0 0,.string ⟨#[]⟩,.bool false,.slice none 0 0,.slice none 0 0,.slice none 0 0] 43)).heap.size=w.heap.size+1:=by simp
 have HW0:=zH hw0;clear hb0 hw0;generalize hA:zee s=A;have HA:=zH hA;clear hA;go_enter Tryz.func22,Tryz.ntmps22;go_wp2_with fail
 refine KT.out.mono ?_;intro e w1 hread;cases hts:Tok.tokens s with
 | none=>
  rw[hts] at hread;obtain ⟨rfl,hb1⟩:=hread;have hAn:A=none:=by rw[<-HA.out];unfold zee zdl;rw[hts]
  subst hAn;have hz1:=HZ.out.step hb1;have zf:∀ o,w1.frozen? ⟨w.heap.size,o,none⟩=false:=fun o=>(hb1.frozen (p:=⟨w.heap.size,o,none⟩) HZ.out.1).trans (HZF.out o)
  have hlt:w.heap.size<w1.heap.size:=hz1.1;have hB:=zH (HB0.out.trans (hb1.mono (by rw[HW0.out];omega)));have z0:=hz1.at 0 (.row 0 4 (.slice none 0 0) []) rfl;have z1:=hz1.at 1 (.str ⟨#[]⟩) rfl;have z2:=hz1.at 2 (.bool false) rfl;have z3:=hz1.at 3 (.row 0 1 (.slice none 0 0) []) rfl;have z4:=hz1.at 4 (.row 0 1 (.slice none 0 0) []) rfl;have z5:=hz1.at 5 (.row 0 5 (.slice none 0 0) []) rfl;simp only[val] at z0 z1 z2 z3 z4 z5
  clear hb1 hz1 KT HA hts;go_wp2_with fail
  have k2:=Data.zbl (zL w.heap.size) [.slice none 0 0,.string ⟨#[]⟩,.bool false,.slice none 0 0,.slice none 0 0,.slice none 0 0] _ _ 0 hB.out;refine bodyPost_ret (v:=.tuple #[.agg #[.slice none 0 0,.string ⟨#[]⟩,.bool false,.slice none 0 0,.slice none 0 0,.slice none 0 0],.bool false]) (by simp[results,Tryz.results22,go_sem, *]) rfl ?_;exact zli ((k2.alloc k2.size _).alloc (k2.alloc k2.size _).size _)
 | some ts=>
  rw[hts] at hread;obtain ⟨v1,rfl,hown,hb1⟩:=hread;obtain ⟨ta,cap,rfl⟩:=Kit.za5 hown;have hps0:=start hts hown;have hz1:=HZ.out.step hb1;have zf1:∀ o,w1.frozen? ⟨w.heap.size,o,none⟩=false:=fun o=>(hb1.frozen (p:=⟨w.heap.size,o,none⟩) HZ.out.1).trans (HZF.out o)
  have hlt:w.heap.size<w1.heap.size:=hz1.1;have hbw:=HB0.out.trans (hb1.mono (by rw[HW0.out];omega));obtain ⟨P,hP⟩:∃ P:Cst,P=⟨w1.heap.size,ta,cap,ts⟩:=⟨_,rfl⟩;rw[<-hP] at hps0;have HPB:=zH (show P.pb=w1.heap.size by rw[hP])
  have HTS:=zH (show Tok.tokens s=some P.toks by rw[hP];exact hts)
  have HN:=zH (show P.toks=ts by rw[hP])
  have HU0:=zH (ybu hz1 zf1 hps0 HPB.out hlt hbw);clear hown hb1 KT hts hz1 zf1 hps0 hP HZ HZF hbw HB0 HW0;generalize hex:expr (P.toks.length+1)=ex at *;have HEX:=zH hex;clear hex
  go_upto_block 0 with fail
  go_cut [] from 20 to 31 (fun wx=>∃ Ls cs va vc q b,Uni P w (w1.heap.size+1) (w1.heap.size+2) zco Ls (.slice va Ls.length vc) [] (.slice none 0 0) [] (.slice none 0 0) q b wx/\Data.zaa Ls.flatten=Data.zbj cs/\Data.zds Ls.flatten/\zbk ex [] (rest P 0)=Got b (cs,rest P q))
  case first=>
   go_wp2_with fail
   go_loopw [] (fun wr=>∃ Ls cs va vc q b,Uni P w (w1.heap.size+1) (w1.heap.size+2) zco Ls (.slice va Ls.length vc) [] (.slice none 0 0) [] (.slice none 0 0) q b wr/\Ls.length<=P.toks.length+1/\(b=false->Ls.length<=q)/\Data.zaa Ls.flatten=Data.zbj cs/\Data.zds Ls.flatten/\(b=false->zbk ex [] (rest P 0)=zbk ex cs (rest P q))/\(b=true->zbk ex [] (rest P 0)=none)) (fun wr=>left P.pb P.toks.length wr)
   case atStart=>exact ⟨[],[],none,0,0,false,HU0.out,Nat.zero_le _,(fun _=>Nat.zero_le _),rfl,(by simp[Data.zds]),(fun _=>rfl),fun e=>by cases e⟩
   case round=>
    obtain ⟨Ls,cs,va,vc,q,b,hu,hll,hlq,her,hse,hgo,hbad⟩:=hrel;have HU:=zH hu;have HLL:=zH hll;have HLQ:=zH hlq;have HER:=zH her;have HSE:=zH hse;have HGO:=zH hgo;have HBAD:=zH hbad;have HQN:=zH hu.ps.le;have n2:=hu.ps.c2;rw[HPB.out] at n2;clear hu hll hlq her hse hgo hbad;cases b with
    | true=>
     go_wp2_with fail
     go_meet
     exact ⟨Ls,cs,va,vc,q,true,HU.out,HER.out,HSE.out,HBAD.out (by trivial)⟩
    | false=>
     have K1:=fun hb=>zH (zcr HU.out.ps (k:=8) (c:=⟨#[99,108,97,115,115]⟩) hb)
     have K0:=fun hb=>zH (zfq HU.out.ps (k:=8) (c:=⟨#[99,108,97,115,115]⟩) hb)
     rw[HPB.out] at K1 K0;have hlf:=zH (HU.out.ps.ze5 P.toks.length);cases hcl:isB 8 ⟨#[99,108,97,115,115]⟩ (rest P q) with
     | false=>
      have HC:=zH ((zgm zfm (by decide) _).symm.trans hcl);go_wp2_with fail
      refine (K0 hcl).out.mono ?_;rintro e w5 ⟨rfl,h5,ht5⟩;have HU5:=zH (HU.out.go ht5 h5);clear h5 ht5 hcl K1 K0 n2 HU;go_wp2_with fail
      go_meet
      exact ⟨Ls,cs,va,vc,q,false,HU5.out,HER.out,HSE.out,by rw[HGO.out (by trivial),zep HC.out];rfl⟩
     | true=>
      have HC:=zH ((zgm zfm (by decide) _).symm.trans hcl);go_wp2_with fail
      refine (K1 hcl).out.mono ?_;rintro e w5 ⟨rfl,h5,ht5⟩;have HU5:=zH (HU.out.go ht5 h5);clear h5 ht5 hcl K1 K0 n2 HU;have KC:=fun k=>zH (zo1 (zlv (P.toks.length+1)) (HU5.out.ps.draws k) (Nat.lt_succ_self _))
      rw[HPB.out,HEX.out] at KC;have hs7:=HU5.out.c.1;have y3:=HU5.out.c.at 0 (.row 0 4 (.slice va Ls.length vc) []) rfl;have yf:=HU5.out.cf 0;simp only[val] at y3;have e3:∀ k,(w5.drewN k).cell? ⟨w1.heap.size+1,0,none⟩=some (.slice va Ls.length vc):=fun k=>cell_keep (zb9 w5 k) y3
      have ef:∀ k,(w5.drewN k).frozen? ⟨w1.heap.size+1,0,none⟩=false:=fun k=>((zb9 w5 k).frozen (p:=⟨w1.heap.size+1,0,none⟩) hs7).trans yf
      have hll:=HLL.out;have h800:=HU5.out.ps.fit.len;have hsz7:=HU5.out.sz;go_wp2_with fail
      go_upto_region 7 with fail
      go_region_law
       (first
       | (
        unfold Oper.wp
        go_simp
        refine (KC _).out.mono ?_;rintro e w8 ⟨es,c,q8,b8,rfl,hce,-,hch,hcs,h8,ht8,hg8⟩;have htd:=((za2.refl P w5).below (zb9 w5 _)).trans ht8;have HU8:=zH (HU5.out.go htd h8);obtain ⟨t2,t3,f2,f3,dm,rfl,-⟩:=Data.zjz hce;obtain ⟨a2,l2,n2,rfl⟩:=zbd (Data.zbo.1 hch (.row t2 1 f2 (Data.strs c.fields)) (by simp));obtain ⟨a3,l3,n3,rfl⟩:=zbd (Data.zbo.1 hch (.row t3 5 f3 dm) (by simp))
        rw[show Data.agg [.str c.name,.str c.parent,.row t2 1 (.slice a2 l2 n2) (Data.strs c.fields),.row t3 5 (.slice a3 l3 n3) dm]=.agg #[.string c.name,.string c.parent,.slice a2 l2 n2,.slice a3 l3 n3] from rfl]
        have HX:=zH (And.intro hce (And.intro hch hcs));have HG8:=zH hg8;have k2:=HU8.out.c.at 0 (.row 0 4 (.slice va Ls.length vc) []) rfl;have k3:=HU8.out.cf 0;simp only[val] at k2;have hsf:=HU8.out.c.1;have a20:∀ o,(w8.alloc o).cell? ⟨w1.heap.size+1,0,none⟩=some (.slice va Ls.length vc):=fun o=>cell_keep ((zB _ _).alloc (zL _) o) k2
        have a30:∀ o,(w8.alloc o).frozen? ⟨w1.heap.size+1,0,none⟩=false:=fun o=>(((zB w8.heap.size w8).alloc (zL _) o).frozen (p:=⟨w1.heap.size+1,0,none⟩) hsf).trans k3
        have a40:∀ o,(w8.alloc o).drew.cell? ⟨w1.heap.size+1,0,none⟩=some (.slice va Ls.length vc):=fun o=>a20 o
        have a50:∀ o,(w8.alloc o).drew.frozen? ⟨w1.heap.size+1,0,none⟩=false:=fun o=>a30 o
        have hsp:w1.heap.size+2<=w8.heap.size:=HU8.out.sz;clear h8 ht8 htd hg8 hce hch hcs)
       | (
        refine step_append_lies _ (by rfl) _ _ _ (by rfl) (w1.heap.size+2) 75 j0 (.agg #[.string ByteArray.empty,.string ByteArray.empty,.slice none 0 0,.slice none 0 0]) 4 80 Tryz.underlying39 hj hjz0 hjz1 hjz2 rfl (by decide) _ Ls.length (Data.vals Ls.flatten) (by rfl) (own_keep HU8.out.out.own (by first|exact (zB _ _).alloc (zL _) _|exact ((zB _ _).alloc (zL _) _).drew|exact ((zB _ _).drew).alloc (zL _) _))
         ⟨w8.heap.size,0,none⟩ 1 1 [.string c.name,.string c.parent,.slice a2 l2 n2,.slice a3 l3 n3] (by rfl) (by rfl) (World.news_of_block (cs:=#[.string c.name,.string c.parent,.slice a2 l2 n2,.slice a3 l3 n3]) (t:=75) (fr:=(0,0)) (heap_alloc_new w8 _)) (by intro u hu;simp at hu;rcases hu with rfl|rfl|rfl|rfl<;>rfl)
         (by omega) (by unfold maxLen;omega) (by omega) (by simp;omega) (w8.heap.size+1) (by simp) ?_
        intro g cap w9 hown hgrow hat hltg;have hbw:Below (w1.heap.size+2) w8 w9:=zdy (base:=w1.heap.size+2) hsp HU8.out.out.own hgrow;have hc9:=Data.zbs HU8.out.c hbw (by omega);have hf9:=Data.zb3 HU8.out.cf hbw (by omega);have m4:=hc9.at 0 (.row 0 4 (.slice va Ls.length vc) []) rfl;simp only[val] at m4;have m5:=hf9 0))
      all_goals
       have HO9:=HU8.out.out.app (x:=[.str c.name,.str c.parent,.row t2 1 (.slice a2 l2 n2) (Data.strs c.fields),.row t3 5 (.slice a3 l3 n3) dm]) (l1:=w5.heap.size) (v':=.slice (some ⟨g,0,none⟩) (Ls.length+1) cap) rfl HX.out.2.1 hsz7 (fun k hk=>(HU5.out.out.own.lt k hk).2) hown hgrow (hat.elim (fun e=>.inl e.symm) (fun e=>.inr (by rw[e];rfl)))
       have HU9:=zH (HU8.out.app hbw HO9);have HSTEP:=zH (z0j (cs:=cs) (HEX.out▸zd4 (P.toks.length+1)) (HEX.out▸zau (P.toks.length+1)) HC.out HG8.out HU8.out.ps.le);have hln:(Ls++[[D.str c.name,.str c.parent,.row t2 1 (.slice a2 l2 n2) (Data.strs c.fields),.row t3 5 (.slice a3 l3 n3) dm]]).length=Ls.length+1:=by simp
       have hfl:(Ls++[[D.str c.name,.str c.parent,.row t2 1 (.slice a2 l2 n2) (Data.strs c.fields),.row t3 5 (.slice a3 l3 n3) dm]]).flatten=Ls.flatten++[D.str c.name,.str c.parent,.row t2 1 (.slice a2 l2 n2) (Data.strs c.fields),.row t3 5 (.slice a3 l3 n3) dm]:=by simp
       have hlf1:=hlf.out;clear HU8 hown hgrow hat hbw hc9 hf9 m4 m5 KC HO9;go_wp2_with fail
       go_roundw
       case rel=>
        refine ⟨Ls++[[D.str c.name,.str c.parent,.row t2 1 (.slice a2 l2 n2) (Data.strs c.fields),.row t3 5 (.slice a3 l3 n3) dm]],cs++[c],some ⟨g,0,none⟩,cap,q8,b8,by rw[hln];exact HU9.out,by rw[hln];have h1:=HQN.out;have h2:=HLQ.out (by trivial);omega,fun e=>?_,?_,?_,fun e=>?_,fun e=>?_⟩
        ·rw[hln];have:=(HSTEP.out.1 e).1;have h2:=HLQ.out (by trivial);omega
        ·rw[hfl,Data.zao,HER.out,HX.out.1,zi6]
        ·rw[hfl];exact Data.zds.append.2 ⟨HSE.out,HX.out.2.2⟩
        ·exact (HGO.out (by trivial)).trans (HSTEP.out.1 e).2
        ·exact (HGO.out (by trivial)).trans (HSTEP.out.2 e)
       case measure=>
        rw[hlf1];cases b8 with
        | true=>rw[HU9.out.ps.zhh];omega
        | false=>rw[HU9.out.ps.ze5];have h1:=(HSTEP.out.1 rfl).1;have h2:=HU9.out.ps.le;omega
  case rest=>
  obtain ⟨Ls,cs,va,vc,q,b,hu,her,hse,hcl⟩:=hcut;have HU:=zH hu;have HER:=zH her;have HSE:=zH hse;have HCL:=zH hcl;have KM:=zH (zf0 hu.ps 8 ⟨#[109,97,105,110]⟩);rw[HPB.out] at KM;clear hu her hse hcl HU0;go_wp2_with fail
  refine KM.out.mono ?_;rintro e w3 ⟨xm,q2,b2,rfl,h2,ht2,-,-,hn2,hy2⟩;have HU2:=zH (HU.out.go ht2 h2);have HMN:=zH (z9g hn2 hy2);have KN:=zH (zfk HU2.out.ps);rw[HPB.out] at KN;clear h2 ht2 hn2 hy2 KM HU;go_wp2_with fail
  refine KN.out.mono ?_;rintro e w4 ⟨vt,tsn,q3,b3,rfl,htx,htl,h3,ht3,hn3,hy3⟩;have htx2:=htx.mono HU2.out.sz;obtain ⟨-,tb,tn,tc,rfl,-⟩:=id htx2;have hU3:=HU2.out.go ht3 h3;have HU3:=zH (hU3.ye8 htx2.texts (.inr ⟨tb,tn,tc,rfl⟩));have HNF:=zH (zh9 hn3 hy3);have m4:=hU3.c.at 4 (.row 0 1 (.slice none 0 0) []) rfl;have m5:=hU3.cf 4;simp only[val] at m4;have KS:=zH (zvq (zlv (P.toks.length+1)) HU3.out.ps (fun _=>by rw[zaf];omega))
  rw[HPB.out,HEX.out] at KS;clear htx htx2 htl h3 ht3 hn3 hy3 hU3 HU2 KN;go_wp2_with fail
  refine KS.out.mono ?_;rintro e w5 ⟨v5,L,q4,b4,rfl,hk5,h4,ht4,hbb,hgg⟩;have hk:=(hk5.mono HU3.out.sz).kids;obtain ⟨ka,kc,hk4,-⟩:=id hk;subst hk4;have hU4:=HU3.out.go ht4 h4;have HU4:=zH (hU4.yed hk);have HG:=zH (z9b HCL.out HMN.out HNF.out (And.intro hbb hgg));have x4:=hU4.c.at 5 (.row 0 5 (.slice none 0 0) []) rfl;have x5:=hU4.cf 5;simp only[val] at x4;have c1:=HU4.out.ps.c1;have c2:=HU4.out.ps.c2
  rw[HPB.out] at c1 c2;clear hk5 h4 ht4 hbb hgg hk hU4 HU3 KS m4 m5;have HSRC:=zH (zqe (u:=⟨cs,⟨zco,false,[],tsn,zbu L⟩⟩) (b:=b4) HTS.out HU4.out.ps.le (HEX.out▸HG.out));have hNl:P.toks.length=ts.length:=by rw[HN.out]
  have hqN:=HU4.out.ps.le;rw[hNl] at hqN;have hl800:=HU4.out.ps.fit.len;rw[hNl] at hl800;obtain ⟨es,hev,hee,heh,hes⟩:=HU4.out.data (by decide) HER.out HSE.out;have HEV:=zH hev;have HEE:=zH hee;have HEH:=zH heh;have HES:=zH hes;clear hev hee heh hes;cases b4 with
  | true=>
   have hAn:A=none:=by rw[<-HA.out];unfold zee;rw[HSRC.out];rfl
   subst hAn;clear HA HSRC;have z0:=HU4.out.z.at 0 (.row 0 4 (.slice none 0 0) []) rfl;have z1:=HU4.out.z.at 1 (.str ⟨#[]⟩) rfl;have z2:=HU4.out.z.at 2 (.bool false) rfl;have z3:=HU4.out.z.at 3 (.row 0 1 (.slice none 0 0) []) rfl;have z4:=HU4.out.z.at 4 (.row 0 1 (.slice none 0 0) []) rfl;have z5:=HU4.out.z.at 5 (.row 0 5 (.slice none 0 0) []) rfl;have zf:=HU4.out.zf;simp only[val] at z0 z1 z2 z3 z4 z5
   go_wp2_with fail
   have k2:=Data.zbl (zL w.heap.size) [.slice none 0 0,.string ⟨#[]⟩,.bool false,.slice none 0 0,.slice none 0 0,.slice none 0 0] _ _ 0 HU4.out.low;refine bodyPost_ret (v:=.tuple #[.agg #[.slice none 0 0,.string ⟨#[]⟩,.bool false,.slice none 0 0,.slice none 0 0,.slice none 0 0],.bool false]) (by simp[results,Tryz.results22,go_sem, *]) rfl ?_;exact zli k2
  | false=>
   by_cases hq:q4=ts.length
   case neg=>
    have e1:((q4:Int) != (ts.length:Int))=true:=by simp;omega
    have hAn:A=none:=by rw[<-HA.out];unfold zee;rw[HSRC.out];simp[hNl,hq]
    subst hAn;clear HA HSRC;have zf:=HU4.out.zf;have z0:=HU4.out.z.at 0 (.row 0 4 (.slice none 0 0) []) rfl;have z1:=HU4.out.z.at 1 (.str ⟨#[]⟩) rfl;have z2:=HU4.out.z.at 2 (.bool false) rfl;have z3:=HU4.out.z.at 3 (.row 0 1 (.slice none 0 0) []) rfl;have z4:=HU4.out.z.at 4 (.row 0 1 (.slice none 0 0) []) rfl;have z5:=HU4.out.z.at 5 (.row 0 5 (.slice none 0 0) []) rfl;simp only[val] at z0 z1 z2 z3 z4 z5
    go_wp2_with fail
    have k2:=Data.zbl (zL w.heap.size) [.slice none 0 0,.string ⟨#[]⟩,.bool false,.slice none 0 0,.slice none 0 0,.slice none 0 0] _ _ 0 HU4.out.low;refine bodyPost_ret (v:=.tuple #[.agg #[.slice none 0 0,.string ⟨#[]⟩,.bool false,.slice none 0 0,.slice none 0 0,.slice none 0 0],.bool false]) (by simp[results,Tryz.results22,go_sem, *]) rfl ?_;exact zli k2
   have hsrc:zdl s=some ⟨cs,⟨zco,false,[],tsn,zbu L⟩⟩:=by rw[HSRC.out];simp[hNl,hq]
   have hwt:=zgk hsrc;have hag:Data.agg es=.agg #[.slice va Ls.length vc,.string zco,.bool false,.slice none 0 0,.slice (some ⟨tb,tn,none⟩) tsn.length tc,.slice ka (zbu L).length kc]:=by unfold Data.agg;rw[HEV.out]
   have KE:=zH (Data.z7h HEE.out HEH.out HES.out (by rw[HEE.out];omega));rw[hag] at KE;have HAG:=zH hag;have HAN:Hid (A=if Data.zf7 ⟨cs,⟨zco,false,[],tsn,zbu L⟩⟩=true then some ⟨cs,⟨zco,false,[],tsn,zbu L⟩⟩ else none):=zH (by rw[<-HA.out];unfold zee;rw[hsrc])
   subst hq;have HYC:=zH HU4.out.c;have y0:=HU4.out.c.at 0 (.row 0 4 (.slice va Ls.length vc) []) rfl;have y1:=HU4.out.c.at 1 (.str zco) rfl;have y2:=HU4.out.c.at 2 (.bool false) rfl;have y3:=HU4.out.c.at 3 (.row 0 1 (.slice none 0 0) []) rfl;have y4:=HU4.out.c.at 4 (.row 0 1 (.slice (some ⟨tb,tn,none⟩) tsn.length tc) []) rfl;have y5:=HU4.out.c.at 5 (.row 0 5 (.slice ka (zbu L).length kc) []) rfl
   simp only[val] at y0 y1 y2 y3 y4 y5;clear hsrc hwt HA HSRC hag hqN hNl;cases hie:Data.zf7 ⟨cs,⟨zco,false,[],tsn,zbu L⟩⟩ with
   | false=>
    rw[hie] at KE;have hAn:A=none:=by rw[HAN.out,hie];rfl
    subst hAn;clear HAN hie;go_wp2_with fail
    refine KE.out.mono ?_;rintro e w7 ⟨rfl,hb7⟩;have hz7:=HU4.out.z.step hb7;have hzf7:∀ o,w7.frozen? ⟨w.heap.size,o,none⟩=false:=fun o=>(hb7.frozen (p:=⟨w.heap.size,o,none⟩) HU4.out.z.1).trans (HU4.out.zf o)
    have HB7:=zH (HU4.out.low.trans (hb7.mono HU4.out.low.size));have z0:=hz7.at 0 (.row 0 4 (.slice none 0 0) []) rfl;have z1:=hz7.at 1 (.str ⟨#[]⟩) rfl;have z2:=hz7.at 2 (.bool false) rfl;have z3:=hz7.at 3 (.row 0 1 (.slice none 0 0) []) rfl;have z4:=hz7.at 4 (.row 0 1 (.slice none 0 0) []) rfl;have z5:=hz7.at 5 (.row 0 5 (.slice none 0 0) []) rfl;simp only[val] at z0 z1 z2 z3 z4 z5;clear hb7 KE hz7
    go_wp2_with fail
    have k2:=Data.zbl (zL w.heap.size) [.slice none 0 0,.string ⟨#[]⟩,.bool false,.slice none 0 0,.slice none 0 0,.slice none 0 0] _ _ 0 HB7.out;refine bodyPost_ret (v:=.tuple #[.agg #[.slice none 0 0,.string ⟨#[]⟩,.bool false,.slice none 0 0,.slice none 0 0,.slice none 0 0],.bool false]) (by simp[results,Tryz.results22,go_sem, *]) rfl ?_;exact zli k2
   | true=>
    rw[hie] at KE;have hAn:A=some ⟨cs,⟨zco,false,[],tsn,zbu L⟩⟩:=by rw[HAN.out,hie];rfl
    subst hAn;clear HAN hie;go_wp2_with fail
    refine KE.out.mono ?_;rintro e w7 ⟨rfl,hb7⟩;have hz7:=HU4.out.z.step hb7;have hc7:=HYC.out.step hb7;have hzf7:∀ o,w7.frozen? ⟨w.heap.size,o,none⟩=false:=fun o=>(hb7.frozen (p:=⟨w.heap.size,o,none⟩) HU4.out.z.1).trans (HU4.out.zf o)
    have HB7:=zH (HU4.out.low.trans (hb7.mono HU4.out.low.size));have HH7:=zH (HEH.out.below hb7);have hBm:w.heap.size<w1.heap.size+2:=by omega
    have z0:=hz7.at 0 (.row 0 4 (.slice none 0 0) []) rfl;have z1:=hz7.at 1 (.str ⟨#[]⟩) rfl;have z2:=hz7.at 2 (.bool false) rfl;have z3:=hz7.at 3 (.row 0 1 (.slice none 0 0) []) rfl;have z4:=hz7.at 4 (.row 0 1 (.slice none 0 0) []) rfl;have z5:=hz7.at 5 (.row 0 5 (.slice none 0 0) []) rfl;simp only[val] at z0 z1 z2 z3 z4 z5;clear y0 y1 y2 y3 y4 y5;have y0:=hc7.at 0 (.row 0 4 (.slice va Ls.length vc) []) rfl
    have y1:=hc7.at 1 (.str zco) rfl;have y2:=hc7.at 2 (.bool false) rfl;have y3:=hc7.at 3 (.row 0 1 (.slice none 0 0) []) rfl;have y4:=hc7.at 4 (.row 0 1 (.slice (some ⟨tb,tn,none⟩) tsn.length tc) []) rfl;have y5:=hc7.at 5 (.row 0 5 (.slice ka (zbu L).length kc) []) rfl;simp only[val] at y0 y1 y2 y3 y4 y5;clear hb7 KE hz7 hc7;go_wp2_with fail
    have k:=z8c HB7.out HH7.out hBm HEE.out HAG.out [.slice va Ls.length vc,.string zco,.bool false,.slice none 0 0,.slice (some ⟨tb,tn,none⟩) tsn.length tc,.slice ka (zbu L).length kc];refine bodyPost_ret (v:=.tuple #[.agg #[.slice va Ls.length vc,.string zco,.bool false,.slice none 0 0,.slice (some ⟨tb,tn,none⟩) tsn.length tc,.slice ka (zbu L).length kc],.bool true]) (by simp[results,Tryz.results22,go_sem, *]) rfl ?_
    exact k
end SpecParse
end Go.Proofs.YtlmhgeanknhcfaaGreatDoor
