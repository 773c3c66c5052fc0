/-
  SpecClsW SpecUni
-/
import Derived.Test.YtlmhgeanknhcfaaGreatDoorB18
set_option maxHeartbeats 16000000
set_option maxRecDepth 10000
namespace Go.Proofs.YtlmhgeanknhcfaaGreatDoor
namespace Parser
open Go.RowKit
open Strs Tree Gram
open Go.Proofs.YtlmhgeanknhcfaaGreatDoor.Data (Cells zae D val M C)
theorem z5m {P:Cst} {ex:X} (hx:Light ex) (hs:zcz ex) {q q8:Nat} {b8:Bool} {ms:List M} {m:M} (he:wd z5l (rest P q)=false) (hm:Gram.method ex (rest P q)=Got b8 (m,rest P q8)) (hq:q8<=P.toks.length):
  (b8=false->q<q8/\zce ex ms (rest P q)=zce ex (ms++[m]) (rest P q8))/\(b8=true->zce ex ms (rest P q)=none):=by
 cases b8 with
 | true=>exact ⟨(fun e=>by cases e),fun _=>zf6 he hm⟩
 | false=>
  refine ⟨fun _=>⟨?_,zkz hx hs he hm⟩,fun e=>by cases e⟩
  have h1:=(zgc hx hs hm).1;rw[zaf,zaf] at h1;omega
theorem zo1 {n:Nat} (hx:XC n) {P:Cst} {p:Nat} {w:World} (h:PS P p false w) (hn:P.toks.length<n):
  Calls Tryz.prog 55 #[.pointer (some ⟨P.pb,0,none⟩)] w (zu6 P w (zdj (expr n) (rest P p))):=by
 obtain ⟨i0,hi,hz0,hz1,hz2⟩:=info_parts zs6;have hb0:Below w.heap.size w (w.alloc (.cells #[.string ⟨#[]⟩,.string ⟨#[]⟩,.slice none 0 0,.slice none 0 0] 75)):=(zB _ _).alloc (zL _) _;have HZ:=zH (zae w (z7c ⟨#[]⟩ ⟨#[]⟩ (.slice none 0 0) (.slice none 0 0)) 75);have HZF:=zH (show ∀ o,(w.alloc (.cells #[.string ⟨#[]⟩,.string ⟨#[]⟩,.slice none 0 0,.slice none 0 0] 75)).frozen? ⟨w.heap.size,o,none⟩=false from fun o=>by go_simp)
 have HP0:=zH (h.below hb0);have HT0:=zH ((za2.refl P w).below hb0);have HLO:=zH h.lo;have HFIT:=zH h.fit;have hpbl:=h.size;have K1:=zH (zf0 HP0.out 1 ⟨#[]⟩);generalize hG:zdj (expr n) (rest P p)=G;have HG:=zH hG;clear hG h hb0;go_enter Tryz.func55,Tryz.ntmps55;go_wp2_with fail
 refine K1.out.mono ?_;rintro e w1 ⟨nm,q1,b1,rfl,h1,ht1,hs1,-,hn1,hy1⟩;have hz1:=Cells.turn HZ.out ht1 (by omega);have hzf1:=zc0 HZF.out HZ.out.1 ht1 (by omega);have HC1:=zH (yan (n:=nm) hz1 hzf1 h1 (HT0.out.trans ht1) HLO.out);have HS1:=zH hs1;have HN1:Hid ((b1=false->isB 1 ⟨#[]⟩ (rest P p)=true/\q1=p+1/\nm=txt (rest P p))/\(b1=true->isB 1 ⟨#[]⟩ (rest P p)=false)):=zH ⟨fun e=>(hn1 e).2,fun e=>(hy1 e).resolve_left (by simp)⟩
 have K2:=zH (zf0 HC1.out.ps 8 ⟨#[101,120,116,101,110,100,115]⟩);have hlt1:w.heap.size<w1.heap.size:=hz1.1;clear h1 ht1 hs1 hn1 hy1 hz1 hzf1 K1 HZ HZF HP0 HT0;go_wp2_with fail
 refine K2.out.mono ?_;rintro e w2 ⟨ex,q2,b2,rfl,h2,ht2,-,-,hn2,hy2⟩;have HC2:=zH (HC1.out.go ht2 h2);have HN2:=zH (And.intro hn2 hy2);have K3:=zH (zf0 HC2.out.ps 1 ⟨#[]⟩);clear h2 ht2 hn2 hy2 K2 HC1;go_wp2_with fail
 refine K3.out.mono ?_;rintro e w3 ⟨pa,q3,b3,rfl,h3,ht3,hs3,-,hn3,hy3⟩;have hC3:=HC2.out.go ht3 h3;have HS3:=zH hs3;have HC3:=zH (hC3.par pa);have HHD:=zH (z7d HN1.out HN2.out (And.intro hn3 hy3));have m1:=hC3.c.at 1 (.str ⟨#[]⟩) rfl;have mf:=hC3.cf 1;simp only[val] at m1;have KY:=fun hb=>zH (zcr HC3.out.ps (k:=8) (c:=⟨#[102,105,101,108,100,115]⟩) hb)
 have KN:=fun hb=>zH (zfq HC3.out.ps (k:=8) (c:=⟨#[102,105,101,108,100,115]⟩) hb)
 clear h3 ht3 hs3 hn3 hy3 hC3 K3 HC2 HN1 HN2
 go_upto_region 4 with fail
 go_cut [14] from 13 to 13 (fun v wx=>∃ f:Bool,v=.bool f/\wd zi0 (rest P q3)=f/\Cls P w w1.heap.size nm pa [] (.slice none 0 0) (if f then q3+1 else q3) b3 wx)
 case first=>
  go_wp2_with fail
  cases hb:isB 8 ⟨#[102,105,101,108,100,115]⟩ (rest P q3) with
  | true=>
   refine (KY hb).out.mono ?_;rintro e w4 ⟨rfl,h4,ht4⟩;have HC4:=zH (HC3.out.go ht4 h4);have HB:=zH ((SpecParse.zgm zi0 (by decide) _).symm.trans hb);clear h4 ht4 hb;go_wp2_with fail
   go_meet
   exact ⟨true,rfl,HB.out,HC4.out⟩
  | false=>
   refine (KN hb).out.mono ?_;rintro e w4 ⟨rfl,h4,ht4⟩;have HC4:=zH (HC3.out.go ht4 h4);have HB:=zH ((SpecParse.zgm zi0 (by decide) _).symm.trans hb);clear h4 ht4 hb;go_wp2_with fail
   go_meet
   exact ⟨false,rfl,HB.out,HC4.out⟩
 case rest=>
 obtain ⟨f,rfl,hf,hc4⟩:=hcut;have HF:=zH hf;have HC4:=zH hc4;clear hf hc4 KY KN HC3 m1 mf
 go_upto_if 14 with fail
 go_cut [] from 15 to 23 (fun wx=>∃ fs a c q,Cls P w w1.heap.size nm pa fs (.slice a fs.length c) q b3 wx/\(∀ x,x∈fs->x.size<=4000)/\fs.length<=801/\fields (rest P q3)=(fs,rest P q))
 case first=>
  cases f with
  | false=>
   go_wp2_with fail
   go_meet
   exact ⟨[],none,0,q3,HC4.out,(fun x hx=>by cases hx),by simp,by unfold fields;rw[HF.out];rfl⟩
  | true=>
   have hq3:=HC4.out.ps.le;go_wp2_with fail
   go_loopw [] (fun wr=>∃ fs a c q,Cls P w w1.heap.size nm pa fs (.slice a fs.length c) q b3 wr/\fs.length<=q/\(∀ x,x∈fs->x.size<=4000)/\zbx [] (rest P (q3+1))=zbx fs (rest P q)) (fun wr=>P.toks.length-plc P.pb wr)
   case atStart=>exact ⟨[],none,0,q3+1,HC4.out,Nat.zero_le _,(fun x hx=>by cases hx),rfl⟩
   case round=>
    obtain ⟨fs,a,c,q,hcl,hfl,hfs,hgo⟩:=hrel;have HCL:=zH hcl;have HFL:=zH hfl;have HFS:=zH hfs;have HGO:=zH hgo;have hpl:=zH hcl.ps.plc;have hqN:=hcl.ps.le;have h800:=HFIT.out.len;have K:=zH (ze4 hcl.ps 1 ⟨#[]⟩);clear hcl hfl hfs hgo;cases hb:isB 1 ⟨#[]⟩ (rest P q) with
    | false=>
     rw[hb] at K;have HST:=zH (zk9 (ts:=fs) hb);clear hb;go_wp2_with fail
     refine K.out.mono ?_;rintro e w5 ⟨rfl,hd⟩;have HC5:=zH (HCL.out.drawn hd);clear hd K;go_wp2_with fail
     go_meet
     have h1:=HFL.out;exact ⟨fs,a,c,q,HC5.out,HFS.out,by omega,by unfold fields;rw[HF.out,if_pos rfl,zab,HGO.out,HST.out]⟩
    | true=>
     rw[hb] at K;have HST:=zH (zpa (ts:=fs) hb);have hlt:=zkc hb;have HX:=zH (zcn (p:=q) HFIT.out);have HB:=zH hb;clear hb;go_wp2_with fail
     refine K.out.mono ?_;rintro e w5 ⟨rfl,hd⟩;have HC5:=zH (HCL.out.drawn hd);clear hd K HCL
     go_upto_region 6 with fail
     have KN5:=fun k=>zH (zck (HC5.out.ps.draws k) HB.out)
     have hs5:=HC5.out.c.1;have c2:=HC5.out.c.at 2 (.row 0 1 (.slice a fs.length c) []) rfl;have cf:=HC5.out.cf 2;simp only[val] at c2;have e2:∀ k,(w5.drewN k).cell? ⟨w1.heap.size,2,none⟩=some (.slice a fs.length c):=fun k=>cell_keep (zb9 w5 k) c2
     have ef:∀ k,(w5.drewN k).frozen? ⟨w1.heap.size,2,none⟩=false:=fun k=>((zb9 w5 k).frozen (p:=⟨w1.heap.size,2,none⟩) hs5).trans cf
     have hfl5:=HFL.out;generalize txt (rest P q)=x at *
     go_region_law
      (first
      | (
       unfold Oper.wp
       go_simp
       refine (KN5 _).out.mono ?_;rintro e w6 ⟨rfl,hp6,ht6⟩;have htd:=((za2.refl P w5).below (zb9 w5 _)).trans ht6;have HP6:=zH (HC5.out.go htd hp6);have k2:=HP6.out.c.at 2 (.row 0 1 (.slice a fs.length c) []) rfl;have k3:=HP6.out.cf 2;simp only[val] at k2;have hsf:=HP6.out.c.1;have a2:∀ o,(w6.alloc o).cell? ⟨w1.heap.size,2,none⟩=some (.slice a fs.length c):=fun o=>cell_keep ((zB _ _).alloc (zL _) o) k2
       have a3:∀ o,(w6.alloc o).frozen? ⟨w1.heap.size,2,none⟩=false:=fun o=>(((zB w6.heap.size w6).alloc (zL _) o).frozen (p:=⟨w1.heap.size,2,none⟩) hsf).trans k3
       have a4:∀ o,(w6.alloc o).drew.cell? ⟨w1.heap.size,2,none⟩=some (.slice a fs.length c):=fun o=>a2 o
       have a5:∀ o,(w6.alloc o).drew.frozen? ⟨w1.heap.size,2,none⟩=false:=fun o=>a3 o
       have hsp:w1.heap.size+1<=w6.heap.size:=by omega
       clear hp6 ht6 htd)
      | (
       refine step_append_lies _ (by rfl) _ _ _ (by rfl) (w1.heap.size+1) 9 i0 (.string ByteArray.empty) 1 16 Tryz.underlying22 hi hz0 hz1 hz2 rfl (by decide) _ fs.length (fs.map Value.string) (by rfl) (own_keep HP6.out.own (by first|exact (zB _ _).alloc (zL _) _|exact ((zB _ _).alloc (zL _) _).drew|exact ((zB _ _).drew).alloc (zL _) _))
        ⟨w6.heap.size,0,none⟩ 1 1 [.string x] (by rfl) (by rfl) (World.news_of_block (cs:=#[.string x]) (t:=9) (fr:=(0,0)) (heap_alloc_new w6 _)) (by intro u hu;simp at hu;subst hu;rfl)
        (by omega) (by unfold maxLen;omega) (by omega) (by simp;omega) (w6.heap.size+1) (by simp) ?_
       intro g cap w8 hown hgrow hat hltg;have hbw:Below (w1.heap.size+1) w6 w8:=zdy (base:=w1.heap.size+1) hsp HP6.out.own hgrow;have hc8:=Data.zbs HP6.out.c hbw (by omega);have hf8:=Data.zb3 HP6.out.cf hbw (by omega);have m4:=hc8.at 2 (.row 0 1 (.slice a fs.length c) []) rfl;simp only[val] at m4;have m5:=hf8 2))
     all_goals
      have HP7:=zH (HP6.out.fld (ys:=fs++[x]) hbw (by simpa using hown));have hln:(fs++[x]).length=fs.length+1:=by simp
      have hpl1:=hpl.out;clear HP6 hown hgrow hat hbw hc8 hf8 m4 m5 KN5;go_wp2_with fail
      go_roundw
      case rel=>
       refine ⟨fs++[x],some ⟨g,0,none⟩,cap,q+1,by rw[hln];exact HP7.out,by rw[hln];omega,fun y hy=>?_,HGO.out.trans HST.out⟩
       rcases List.mem_append.1 hy with hy|hy
       ·exact HFS.out y hy
       ·rw[List.mem_singleton.1 hy];exact HX.out
      case measure=>rw[hpl1,HP7.out.ps.plc];omega
 case rest=>
 obtain ⟨fs,fa,fc,q4,hc5,hfs,hfl,hfg⟩:=hcut;obtain ⟨j0,hj,hjz0,hjz1,hjz2⟩:=info_parts yc8;have HM0:=zH (hc5.mts (fun x hx=>Nat.le_trans (hfs x hx) (by unfold maxLen;omega)))
 have HFG:=zH hfg;generalize hBm:wc.heap.size=Bm at *;have hBm1:w1.heap.size<Bm:=HM0.out.ltm;clear hc5 hfs hfl hfg HC4 HF;go_wp2_with fail
 go_loopw [4] (fun _ wr=>∃ Ls ms va vc q b,Mts P w w1.heap.size Bm nm pa fs (.slice fa fs.length fc) Ls (.slice va Ls.length vc) q b wr/\Bm<=wr.heap.size/\Ls.length<=P.toks.length+1/\(b=false->Ls.length<=q)/\Data.zaa Ls.flatten=Data.za8 ms/\Data.zds Ls.flatten/\(b3=true->b=true)/\(b3=false->b=false->zce (expr n) [] (rest P q4)=zce (expr n) ms (rest P q))/\(b3=false->b=true->zce (expr n) [] (rest P q4)=none)) (fun _ wr=>left P.pb P.toks.length wr)
 case atStart=>exact ⟨[],[],none,0,q4,b3,HM0.out,Nat.le_of_eq hBm.symm,Nat.zero_le _,(fun _=>Nat.zero_le _),rfl,(by simp[Data.zds]),(fun e=>e),(fun _ _=>rfl),fun e1 e2=>by rw[e1] at e2;cases e2⟩
 case round=>
  obtain ⟨Ls,ms,va,vc,q,b,hm,hsz,hll,hlq,her,hse,hbb,hgo,hbad⟩:=hrel;have HM:=zH hm;have HLL:=zH hll;have HLQ:=zH hlq;have HER:=zH her;have HSE:=zH hse;have HBB:=zH hbb;have HGO:=zH hgo;have HBAD:=zH hbad;have n2:=hm.ps.c2;have HQN:=zH hm.ps.le;clear hm hll hlq her hse hbb hgo hbad;cases b with
  | true=>
   have HCG:=zH (zs8 (b:=true) (q:=q) (ms:=ms) HHD.out HFG.out (fun _=>rfl) (fun e=>HBAD.out e (by trivial)))
   have x0:=HM.out.z.at 0 (.str ⟨#[]⟩) rfl;have x1:=HM.out.z.at 1 (.str ⟨#[]⟩) rfl;have x2:=HM.out.z.at 2 (.row 0 1 (.slice none 0 0) []) rfl;have x3:=HM.out.z.at 3 (.row 0 5 (.slice none 0 0) []) rfl;have xf:=HM.out.zf;have y0:=HM.out.c.at 0 (.str nm) rfl;have y1:=HM.out.c.at 1 (.str pa) rfl;have y2:=HM.out.c.at 2 (.row 0 1 (.slice fa fs.length fc) []) rfl;have y3:=HM.out.c.at 3 (.row 0 5 (.slice va Ls.length vc) []) rfl
   simp only[val] at x0 x1 x2 x3 y0 y1 y2 y3;go_wp2_with fail
   refine bodyPost_ret (v:=.agg #[.string nm,.string pa,.slice fa fs.length fc,.slice va Ls.length vc]) (by simp[results,Tryz.results55,go_sem, *]) rfl ?_;exact HM.out.back (Nat.le_trans HS1.out (by unfold maxLen;omega)) (Nat.le_trans HS3.out (by unfold maxLen;omega)) HER.out HSE.out (HG.out.symm.trans HCG.out)
  | false=>
   have K1:=fun hb=>zH (zcr HM.out.ps (k:=8) (c:=⟨#[101,110,100]⟩) hb)
   have K0:=fun hb=>zH (zfq HM.out.ps (k:=8) (c:=⟨#[101,110,100]⟩) hb)
   have hlf:=zH (HM.out.ps.ze5 P.toks.length);have HB3:Hid (b3=false):=zH (by cases b3 with|false=>rfl|true=>exact absurd (HBB.out rfl) (by simp))
   cases hend:isB 8 ⟨#[101,110,100]⟩ (rest P q) with
   | true=>
    have HE:=zH ((SpecParse.zgm z5l (by decide) _).symm.trans hend);go_wp2_with fail
    refine (K1 hend).out.mono ?_;rintro e w5 ⟨rfl,h5,ht5⟩;have HM5:=zH (HM.out.go ht5 h5);have HCG:=zH (zs8 (b:=false) (q:=q+1) (ms:=ms) HHD.out HFG.out (fun e=>absurd (HB3.out.symm.trans e) (by simp)) (fun e=>by rw[HGO.out e (by trivial),zia HE.out,zab];rfl))
    clear h5 ht5 hend K1 K0 n2 HM;have x0:=HM5.out.z.at 0 (.str ⟨#[]⟩) rfl;have x1:=HM5.out.z.at 1 (.str ⟨#[]⟩) rfl;have x2:=HM5.out.z.at 2 (.row 0 1 (.slice none 0 0) []) rfl;have x3:=HM5.out.z.at 3 (.row 0 5 (.slice none 0 0) []) rfl;have xf:=HM5.out.zf;have y0:=HM5.out.c.at 0 (.str nm) rfl;have y1:=HM5.out.c.at 1 (.str pa) rfl;have y2:=HM5.out.c.at 2 (.row 0 1 (.slice fa fs.length fc) []) rfl;have y3:=HM5.out.c.at 3 (.row 0 5 (.slice va Ls.length vc) []) rfl
    simp only[val] at x0 x1 x2 x3 y0 y1 y2 y3;go_wp2_with fail
    refine bodyPost_ret (v:=.agg #[.string nm,.string pa,.slice fa fs.length fc,.slice va Ls.length vc]) (by simp[results,Tryz.results55,go_sem, *]) rfl ?_;exact HM5.out.back (Nat.le_trans HS1.out (by unfold maxLen;omega)) (Nat.le_trans HS3.out (by unfold maxLen;omega)) HER.out HSE.out (HG.out.symm.trans HCG.out)
   | false=>
    have HE:=zH ((SpecParse.zgm z5l (by decide) _).symm.trans hend);go_wp2_with fail
    refine (K0 hend).out.mono ?_;rintro e w5 ⟨rfl,h5,ht5⟩;have HM5:=zH (HM.out.go ht5 h5);have KI:=zH (ze4 HM5.out.ps 8 ⟨#[99,108,97,115,115,109,101,116,104,111,100]⟩);clear h5 ht5 hend K1 K0 n2 HM
    go_upto_region 8 with fail
    go_cut [4] from 34 to 35 (fun v wx=>∃ cls:Bool,v=.bool cls/\wd zb7 (rest P q)=cls/\Mts P w w1.heap.size Bm nm pa fs (.slice fa fs.length fc) Ls (.slice va Ls.length vc) q false wx)
    case first=>
     go_wp2_with fail
     refine KI.out.mono ?_;rintro e w6 ⟨rfl,hd⟩;have HM6:=zH (HM5.out.drawn hd);clear hd KI;go_wp2_with fail
     go_meet
     exact ⟨_,rfl,(SpecParse.zgm zb7 (by decide) _).symm,HM6.out⟩
    case rest=>
    obtain ⟨cls,rfl,hcls,hm6⟩:=hcut;have HCM:=zH hcls;have HM6:=zH hm6;clear hcls hm6 KI HM5
    go_upto_if 37 with fail
    go_cut [] from 38 to 46 (fun wx=>∃ q' b',Mts P w w1.heap.size Bm nm pa fs (.slice fa fs.length fc) Ls (.slice va Ls.length vc) q' b' wx/\(b'=false->Gram.method (expr n) (rest P q)=zrv (expr n) cls (rest P q'))/\(b'=true->Gram.method (expr n) (rest P q)=none))
    case first=>
     cases cls with
     | true=>
      have hqN:q<P.toks.length:=by have h2:=zrk HCM.out;rw[zab,zaf,zaf] at h2;omega
      have h800:=HFIT.out.len;have hq8:q<800:=by omega
      have c1:=HM6.out.ps.c1;have fz:=HM6.out.ps.fz 1;go_wp2_with fail
      go_meet
      exact ⟨q+1,false,HM6.out.go ((za2.refl P _).set 1 (.int .i64 ((q:Int)+1))) (HM6.out.ps.go (q+1) hqN),(fun _=>z1y HCM.out),fun e=>by cases e⟩
     | false=>
      have KN:=zH (zf0 HM6.out.ps 8 ⟨#[109,101,116,104,111,100]⟩);go_wp2_with fail
      refine KN.out.mono ?_;rintro e w7 ⟨x,q7,b7,rfl,h7,ht7,-,-,hn7,hy7⟩;have HM7:=zH (HM6.out.go ht7 h7);have HMN:=zH (zw8 (ex:=expr n) HCM.out hn7 hy7);clear h7 ht7 hn7 hy7 KN;go_wp2_with fail
      go_meet
      exact ⟨q7,b7,HM7.out,HMN.out.1,HMN.out.2⟩
    case rest=>
    obtain ⟨q7,b7,hm7,hg7,hb7⟩:=hcut;have HM7:=zH hm7;have HG7:=zH hg7;have HB7:=zH hb7;have c2:=hm7.ps.c2;clear hm7 hg7 hb7 HM6;have hsz7:=HM7.out.sz;cases b7 with
    | true=>
     go_wp2_with fail
     go_roundw
     case rel=>exact ⟨Ls,ms,va,vc,q7,true,HM7.out,hsz7,HLL.out,(fun e=>by cases e),HER.out,HSE.out,(fun _=>rfl),(fun _ e=>by cases e),fun e _=>by rw[HGO.out e (by trivial),zf6 HE.out (HB7.out (by trivial))]⟩
     case measure=>rw[hlf.out,HM7.out.ps.zhh];omega
    | false=>
     have KM:=fun k=>zH (zyg (cls:=cls) hx (HM7.out.ps.draws k) hn)
     have hs7:=HM7.out.c.1;have y3:=HM7.out.c.at 3 (.row 0 5 (.slice va Ls.length vc) []) rfl;have yf:=HM7.out.cf 3;simp only[val] at y3;have e3:∀ k,(wc.drewN k).cell? ⟨w1.heap.size,3,none⟩=some (.slice va Ls.length vc):=fun k=>cell_keep (zb9 wc k) y3
     have ef:∀ k,(wc.drewN k).frozen? ⟨w1.heap.size,3,none⟩=false:=fun k=>((zb9 wc k).frozen (p:=⟨w1.heap.size,3,none⟩) hs7).trans yf
     have hll:=HLL.out;have hlq:=HLQ.out (by trivial);have h800:=HFIT.out.len
     go_upto_region 13 with fail
     go_region_law
      (first
      | (
       unfold Oper.wp
       go_simp
       refine (KM _).out.mono ?_;rintro e w8 ⟨m,v2,v3,v4,q8,b8,rfl,hmc,hmat,h8,ht8,hg8⟩;have htd:=((za2.refl P wc).below (zb9 wc _)).trans ht8;have HM8:=zH (HM7.out.go htd h8);obtain ⟨x,hx5,hxv,hxe,hxh,hxs⟩:=zsa hmat;have HX:=zH (And.intro hx5 (And.intro hxv (And.intro hxe (And.intro hxh hxs))));obtain ⟨a2,n2,rfl,-⟩:=id hmat.params;obtain ⟨a3,n3,rfl,-⟩:=id hmat.temps;obtain ⟨a4,n4,rfl,-⟩:=id hmat.body
       have HG8:=zH hg8;have k2:=HM8.out.c.at 3 (.row 0 5 (.slice va Ls.length vc) []) rfl;have k3:=HM8.out.cf 3;simp only[val] at k2;have hsf:=HM8.out.c.1;have a20:∀ o,(w8.alloc o).cell? ⟨w1.heap.size,3,none⟩=some (.slice va Ls.length vc):=fun o=>cell_keep ((zB _ _).alloc (zL _) o) k2
       have a30:∀ o,(w8.alloc o).frozen? ⟨w1.heap.size,3,none⟩=false:=fun o=>(((zB w8.heap.size w8).alloc (zL _) o).frozen (p:=⟨w1.heap.size,3,none⟩) hsf).trans k3
       have a40:∀ o,(w8.alloc o).drew.cell? ⟨w1.heap.size,3,none⟩=some (.slice va Ls.length vc):=fun o=>a20 o
       have a50:∀ o,(w8.alloc o).drew.frozen? ⟨w1.heap.size,3,none⟩=false:=fun o=>a30 o
       have hsp:Bm<=w8.heap.size:=HM8.out.sz;clear h8 ht8 htd hmat hg8 hx5 hxv hxe hxh hxs)
      | (
       refine step_append_lies _ (by rfl) _ _ _ (by rfl) Bm 41 j0 (.agg #[.string ByteArray.empty,.bool false,.slice none 0 0,.slice none 0 0,.slice none 0 0]) 5 96 Tryz.underlying73 hj hjz0 hjz1 hjz2 rfl (by decide) _ Ls.length (Data.vals Ls.flatten) (by rfl) (own_keep HM8.out.out.own (by first|exact (zB _ _).alloc (zL _) _|exact ((zB _ _).alloc (zL _) _).drew|exact ((zB _ _).drew).alloc (zL _) _))
        ⟨w8.heap.size,0,none⟩ 1 1 [.string m.sel,.bool cls,.slice a2 m.params.length n2,.slice a3 m.temps.length n3,.slice a4 m.body.length n4] (by rfl) (by rfl) (World.news_of_block (cs:=#[.string m.sel,.bool cls,.slice a2 m.params.length n2,.slice a3 m.temps.length n3,.slice a4 m.body.length n4]) (t:=41) (fr:=(0,0)) (heap_alloc_new w8 _)) (by intro u hu;simp at hu;rcases hu with rfl|rfl|rfl|rfl|rfl<;>rfl)
        (by omega) (by unfold maxLen;omega) (by omega) (by simp;omega) (w8.heap.size+1) (by simp) ?_
       intro g cap w9 hown hgrow hat hltg;have hbw:Below Bm w8 w9:=zdy (base:=Bm) hsp HM8.out.out.own hgrow;have hc9:=Data.zbs HM8.out.c hbw (by omega);have hf9:=Data.zb3 HM8.out.cf hbw (by omega);have m4:=hc9.at 3 (.row 0 5 (.slice va Ls.length vc) []) rfl;simp only[val] at m4;have m5:=hf9 3))
     all_goals
      have HO9:=HM8.out.out.app (x:=x) (l1:=wc.heap.size) (v':=.slice (some ⟨g,0,none⟩) (Ls.length+1) cap) HX.out.1 HX.out.2.2.2.1 hsz7 (fun k hk=>(HM7.out.out.own.lt k hk).2) (by rw[HX.out.2.1,hmc];exact hown) hgrow (hat.elim (fun e=>.inl e.symm) (fun e=>.inr (by rw[e];rfl)))
      have HM9:=zH (HM8.out.app hbw HO9);have HSTEP:=zH (z5m (ms:=ms) (zd4 n) (zau n) HE.out ((HG7.out (by trivial)).trans HG8.out) HM8.out.ps.le);have hln:(Ls++[x]).length=Ls.length+1:=by simp
      have hfl:(Ls++[x]).flatten=Ls.flatten++x:=by simp
      have hlf1:=hlf.out;clear HM8 hown hgrow hat hbw hc9 hf9 m4 m5 KM HO9;go_wp2_with fail
      go_roundw
      case rel=>
       refine ⟨Ls++[x],ms++[m],some ⟨g,0,none⟩,cap,q8,b8,by rw[hln];exact HM9.out,HM9.out.sz,by rw[hln];have h1:=HQN.out;have h2:=HLQ.out (by trivial);omega,fun e=>?_,?_,?_,fun e=>absurd (HB3.out.symm.trans e) (by simp),fun e1 e2=>?_,fun e1 e2=>?_⟩
       ·rw[hln];have:=(HSTEP.out.1 e).1;omega
       ·rw[hfl,Data.zao,HER.out,HX.out.2.2.1,zjl]
       ·rw[hfl];exact Data.zds.append.2 ⟨HSE.out,HX.out.2.2.2.2⟩
       ·exact (HGO.out e1 (by trivial)).trans (HSTEP.out.1 e2).2
       ·exact (HGO.out e1 (by trivial)).trans (HSTEP.out.2 e2)
      case measure=>
       rw[hlf1];cases b8 with
       | true=>rw[HM9.out.ps.zhh];omega
       | false=>rw[HM9.out.ps.ze5];have h1:=(HSTEP.out.1 rfl).1;have h2:=HM9.out.ps.le;omega
end Parser
namespace Parser
open Go.RowKit
open Strs Tree Gram
open Go.Proofs.YtlmhgeanknhcfaaGreatDoor.Data (Cells zae D val M C U MAt znz)
theorem ydw:(Tryz.prog.info? 75).map (fun i=>(i.zero,i.size,i.bytes))=some (some (.agg #[.string ByteArray.empty,.string ByteArray.empty,.slice none 0 0,.slice none 0 0]),4,80):=by kernel_rfl
def yad (vc:Value) (s:ByteArray) (vt vb:Value):List D:=[.row 0 4 vc [],.str s,.bool false,.row 0 1 (.slice none 0 0) [],.row 0 1 vt [],.row 0 5 vb []]
structure Uni (P:Cst) (w:World) (B Bm:Nat) (s:ByteArray) (Ls:List (List D)) (vc:Value) (ts:List ByteArray) (vt:Value) (L:List E) (vb:Value) (q:Nat) (b:Bool) (wr:World):Prop where
 z:Cells w.heap.size (yad (.slice none 0 0) ⟨#[]⟩ (.slice none 0 0) (.slice none 0 0)) wr
 zf:∀ o,wr.frozen? ⟨w.heap.size,o,none⟩=false
 c:Cells B (yad vc s vt vb) wr
 cf:∀ o,wr.frozen? ⟨B,o,none⟩=false
 lt:w.heap.size<P.pb
 ltm:B<Bm
 sz:Bm<=wr.heap.size
 out:znz Bm 75 4 wr Ls vc
 tem:zbv Bm wr ts vt
 ft:Data.zfc vt ts.length
 bod:zdh Bm wr L vb
 ps:PS P q b wr
 lo:Lo P B
 low:Below w.heap.size w wr
theorem z8h {P:Cst} {w wr w':World} (h:Below w.heap.size w wr) (ht:za2 P wr w') (hl:w.heap.size<P.pb):Below w.heap.size w w':=
 h.trans ⟨ht.os,ht.tape,ht.output,ht.size,fun k hk=>World.grownBy.block ht k (Nat.lt_of_lt_of_le hk h.size) (by simp;omega)⟩
theorem Uni.go {P:Cst} {w:World} {B Bm:Nat} {s:ByteArray} {Ls:List (List D)} {vc:Value} {ts:List ByteArray} {vt:Value} {L:List E} {vb:Value} {q q':Nat} {b b':Bool} {wr w':World} (h:Uni P w B Bm s Ls vc ts vt L vb q b wr) (ht:za2 P wr w') (hp:PS P q' b' w'):Uni P w B Bm s Ls vc ts vt L vb q' b' w':=by have l0:=h.lt;have l1:=h.lo.1;have l2:=h.ltm;have k:Kept Bm wr w':=ht.kept.mono (by omega);exact ⟨Cells.turn h.z ht (by omega),zc0 h.zf h.z.1 ht (by omega),Cells.turn h.c ht (by omega),zc0 h.cf h.c.1 ht (by omega),h.lt,h.ltm,Nat.le_trans h.sz ht.size,h.out.turn ht (by omega),h.tem.keep (zL _) k,h.ft,h.bod.keep (zL _) k,hp,h.lo,z8h h.low ht h.lt⟩
theorem Uni.app {P:Cst} {w:World} {B Bm:Nat} {s:ByteArray} {Ls Ls':List (List D)} {vc v':Value} {q:Nat} {b:Bool} {wr w1:World} (h:Uni P w B Bm s Ls vc [] (.slice none 0 0) [] (.slice none 0 0) q b wr) (hb1:Below Bm wr w1) (ho:znz Bm 75 4 w1 Ls' v'):Uni P w B Bm s Ls' v' [] (.slice none 0 0) [] (.slice none 0 0) q b (w1.setCell ⟨B,0,none⟩ v'):=by
 have l0:=h.lt;have l1:=h.lo.1;have l2:=h.ltm;have hc1:=Data.zbs h.c hb1 (by omega);have hf1:=Data.zb3 h.cf hb1 (by omega);have hc:=zd1 hc1 0 (.row 0 4 v' []) (by simp[yad]) hf1;have hbb:=(hb1.mono (Nat.le_of_lt l2)).trans (zht (wr:=w1) (B:=B) 0 v');exact ⟨Data.zb5 (Data.zbs h.z hb1 (by omega)) _ (by omega),zbg (Data.zb3 h.zf hb1 (by omega)) _,hc,zbg hf1 _,h.lt,h.ltm,Nat.le_trans h.sz hbb.size,ho.set _ _ (by show B<Bm;omega),zh6 _ _,h.ft,zjx _ _,h.ps.low hbb h.lo,h.lo,h.low.trans (hbb.mono (by omega))⟩
theorem Uni.ye8 {P:Cst} {w:World} {B Bm:Nat} {s:ByteArray} {Ls:List (List D)} {vc v:Value} {ts ts':List ByteArray} {vt:Value} {L:List E} {vb:Value} {q:Nat} {b:Bool} {wr:World} (h:Uni P w B Bm s Ls vc ts vt L vb q b wr) (ht:zbv Bm wr ts' v) (hf:Data.zfc v ts'.length):Uni P w B Bm s Ls vc ts' v L vb q b (wr.setCell ⟨B,4,none⟩ v):=by
 have l0:=h.lt;have l1:=h.lo.1;have l2:=h.ltm;have hb:=zht (wr:=wr) (B:=B) 4 v;have k:=zci wr ⟨B,4,none⟩ v l2;exact ⟨Data.zb5 h.z _ (by omega),zbg h.zf _,zd1 h.c 4 (.row 0 1 v []) (by simp[yad]) h.cf,zbg h.cf _,h.lt,h.ltm,Nat.le_trans h.sz hb.size,h.out.set _ _ l2,ht.keep (zL _) k,hf,h.bod.keep (zL _) k,h.ps.low hb h.lo,h.lo,h.low.trans (hb.mono (by omega))⟩
theorem Uni.yed {P:Cst} {w:World} {B Bm:Nat} {s:ByteArray} {Ls:List (List D)} {vc v:Value} {ts:List ByteArray} {vt:Value} {L L':List E} {vb:Value} {q:Nat} {b:Bool} {wr:World} (h:Uni P w B Bm s Ls vc ts vt L vb q b wr) (hk:zdh Bm wr L' v):Uni P w B Bm s Ls vc ts vt L' v q b (wr.setCell ⟨B,5,none⟩ v):=by
 have l0:=h.lt;have l1:=h.lo.1;have l2:=h.ltm;have hb:=zht (wr:=wr) (B:=B) 5 v;have k:=zci wr ⟨B,5,none⟩ v l2;exact ⟨Data.zb5 h.z _ (by omega),zbg h.zf _,zd1 h.c 5 (.row 0 5 v []) (by simp[yad]) h.cf,zbg h.cf _,h.lt,h.ltm,Nat.le_trans h.sz hb.size,h.out.set _ _ l2,h.tem.keep (zL _) k,h.ft,hk.keep (zL _) k,h.ps.low hb h.lo,h.lo,h.low.trans (hb.mono (by omega))⟩
theorem Uni.data {P:Cst} {w:World} {B Bm:Nat} {s:ByteArray} {Ls:List (List D)} {vc:Value} {ts:List ByteArray} {vt:Value} {L:List E} {vb:Value} {q:Nat} {b:Bool} {wr:World} {cs:List C} (h:Uni P w B Bm s Ls vc ts vt L vb q b wr) (hs:s.size<=maxLen) (he:Data.zaa Ls.flatten=Data.zbj cs) (hse:Data.zds Ls.flatten):
  ∃ es:List D,Data.vals es=[vc,.string s,.bool false,.slice none 0 0,vt,vb]/\Data.zaa es=Data.zde ⟨cs,⟨s,false,[],ts,L⟩⟩/\Data.zat Bm wr es/\Data.zds es:=by
 obtain ⟨x,hx5,hxv,hxe,hxh,hxs⟩:=zsa (m:=⟨s,false,[],ts,L⟩) (v2:=.slice none 0 0) (v3:=vt) (v4:=vb) (lo:=Bm) (w:=wr) ⟨hs,zh6 _ _,h.tem,h.bod,.inl ⟨rfl,rfl⟩,h.ft⟩;refine ⟨.row 0 4 vc Ls.flatten::x,?_,?_,?_,?_⟩
 ·show vc::Data.vals x=_
  rw[hxv]
 ·rw[Data.zha,Data.erase,hxe,he,Data.zde]
 ·rw[Data.zat]
  exact ⟨h.out.holds (by decide) 0,hxh⟩
 ·rw[Data.zds,Data.zzq]
  exact ⟨⟨fun e=>absurd e (by decide),.inr hse⟩,hxs⟩
theorem zi6 (cs:List C) (c:C):Data.zbj (cs++[c])=Data.zbj cs++Data.zcx c:=by
 induction cs with
 | nil=>simp[Data.zbj]
 | cons x xs ih=>rw[List.cons_append,Data.zbj,Data.zbj,ih,List.append_assoc]
theorem z9b {P:Cst} {ex:X} {p q q2 q3 q4:Nat} {b b2 b3 b4:Bool} {cs:List C} {ts:List ByteArray} {L:List E} (hc:zbk ex [] (rest P p)=Got b (cs,rest P q))
  (hm:(b2=false->b=false/\wd zco (rest P q)=true/\q2=q+1)/\(b2=true->b=true\/wd zco (rest P q)=false))
  (ht:(b3=false->b2=false/\names (rest P q2)=some (ts,rest P q3))/\(b3=true->b2=true\/names (rest P q2)=none))
  (hl:(b3=true->b4=true)/\(b3=false->zby ex [] (rest P q3)=Got b4 (L,rest P q4))):unit ex (rest P p)=Got b4 (⟨cs,⟨zco,false,[],ts,L⟩⟩,rest P q4):=by
 unfold unit;rw[hc]
 have up:∀ {x y:Bool},(y=false->x=false)->x=true->y=true:=fun {x y} h e=>by
  cases y with
  | true=>rfl
  | false=>rw[h rfl] at e;cases e
 cases b with
 | true=>
  have e2:=up (fun e=>(hm.1 e).1) rfl
  have e3:=up (fun e=>(ht.1 e).1) e2
  rw[hl.1 e3];rfl
 | false=>
  simp only[Got,Bool.false_eq_true,if_false];cases b2 with
  | true=>
   have e3:=up (fun e=>(ht.1 e).1) rfl
   rw[hl.1 e3];rcases hm.2 rfl with h|h
   ·cases h
   ·rw[h];rfl
  | false=>
   obtain ⟨-,h1,rfl⟩:=hm.1 rfl;rw[h1,if_pos rfl,zab];cases b3 with
   | true=>
    rw[hl.1 rfl];rcases ht.2 rfl with h|h
    ·cases h
    ·rw[h];rfl
   | false=>rw[(ht.1 rfl).2];simp only;rw[hl.2 rfl];cases b4<;>rfl
theorem ybu {P:Cst} {w w1:World} {a:Option Addr} {n c:Nat} (z:Cells w.heap.size (yad (.slice none 0 0) ⟨#[]⟩ (.slice none 0 0) (.slice none 0 0)) w1) (zf:∀ o,w1.frozen? ⟨w.heap.size,o,none⟩=false)
  (h:PS P 0 false (w1.alloc (.cells #[.slice a n c,.int .i64 0,.bool false] 58))) (hp:P.pb=w1.heap.size) (hl:w.heap.size<w1.heap.size) (hb:Below w.heap.size w w1):
  Uni P w (w1.heap.size+1) (w1.heap.size+2) zco [] (.slice none 0 0) [] (.slice none 0 0) [] (.slice none 0 0) 0 false ((w1.alloc (.cells #[.slice a n c,.int .i64 0,.bool false] 58)).alloc (.cells #[.slice none 0 0,.string zco,.bool false,.slice none 0 0,.slice none 0 0,.slice none 0 0] 43)):=by
 have hb1:Below w1.heap.size w1 (w1.alloc (.cells #[.slice a n c,.int .i64 0,.bool false] 58)):=(zB _ _).alloc (zL _) _;have hs1:(w1.alloc (.cells #[.slice a n c,.int .i64 0,.bool false] 58)).heap.size=w1.heap.size+1:=by simp
 have hb2:Below (w1.heap.size+1) (w1.alloc (.cells #[.slice a n c,.int .i64 0,.bool false] 58)) ((w1.alloc (.cells #[.slice a n c,.int .i64 0,.bool false] 58)).alloc (.cells #[.slice none 0 0,.string zco,.bool false,.slice none 0 0,.slice none 0 0,.slice none 0 0] 43)):=(zB _ _).alloc (by rw[hs1];exact zL _) _;have hbb:=hb1.trans (hb2.mono (Nat.le_succ _));have hc:=zae (w1.alloc (.cells #[.slice a n c,.int .i64 0,.bool false] 58)) (yad (.slice none 0 0) zco (.slice none 0 0) (.slice none 0 0)) 43
 rw[hs1] at hc;refine ⟨z.step hbb,fun o=>(hbb.frozen (p:=⟨w.heap.size,o,none⟩) hl).trans (zf o),hc,fun o=>by go_simp,by omega,by omega,by simp,znz.nil,zh6 _ _,.inl ⟨rfl,rfl⟩,zjx _ _,h.below (by rw[hs1];exact hb2),⟨by omega,fun b o hl2 e=>?_⟩,hb.trans (hbb.mono (Nat.le_of_lt hl))⟩
 have:=h.lo.2 b o hl2 e;rw[hs1] at this;exact this
end Parser
end Go.Proofs.YtlmhgeanknhcfaaGreatDoor
